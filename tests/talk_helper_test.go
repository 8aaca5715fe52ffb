package tests

import (
	"cmp"
	"maps"
	"math/rand"
	"regexp"
	"slices"
	"strings"
	"testing"

	"loop.example/g00047/impl"
)

const (
	longestTopic = 60
	mostWords    = 30
	deepest      = 10
	mostFated    = 60
	lastTick     = 400
	mostStamps   = 40
)

var (
	topicForm   = regexp.MustCompile(`\A(/[a-z][a-z0-9_]{0,19})+\z`)
	patternForm = regexp.MustCompile(`\A(/([a-z][a-z0-9_]{0,19}|\*|\*\*))+\z`)
)

func isTopic(s string) bool { return len(s) <= longestTopic && topicForm.MatchString(s) }

// isPattern: a part ** is two bytes, of which one counts.
func isPattern(s string) bool {
	return patternForm.MatchString(s) && len(s)-strings.Count(s, "**") <= longestTopic
}

// checkTopic asks GoodTopic of anything.
func checkTopic(t *testing.T, s string) bool {
	t.Helper()
	got := impl.GoodTopic(s)
	if got != isTopic(s) {
		t.Fatalf("GoodTopic of %q: %v", s, got)
	}
	return got
}

// exactTopic goes by the parts of the space.
func exactTopic(space string, name string) string {
	if space != "" && !isTopic(space) || len(name) > longestTopic {
		return ""
	}
	parts := strings.Split(space, "/")
	all := strings.Join(append(parts[:len(parts)-1:len(parts)-1], name), "/")
	if len(parts) == 1 {
		all = "/" + name
	}
	if strings.HasPrefix(name, "~/") {
		all = strings.Replace(name, "~", space, 1)
	}
	if strings.HasPrefix(name, "/") {
		all = name
	}
	if !isTopic(all) {
		return ""
	}
	return all
}

// checkResolve asks ResolveTopic of anything.
func checkResolve(t *testing.T, space string, name string) string {
	t.Helper()
	got := impl.ResolveTopic(space, name)
	if want := exactTopic(space, name); got != want {
		t.Fatalf("ResolveTopic of %q and %q: %q, want %q", space, name, got, want)
	}
	return got
}

// exactFits makes a regular expression of the pattern.
func exactFits(pattern string, name string) bool {
	if !isPattern(pattern) || !isTopic(name) {
		return false
	}
	form := strings.Builder{}
	for part := range strings.SplitSeq(pattern[1:], "/") {
		switch part {
		case "*":
			form.WriteString("/[^/]+")
		case "**":
			form.WriteString("(/[^/]+)*")
		default:
			form.WriteString("/" + part)
		}
	}
	return regexp.MustCompile(`\A` + form.String() + `\z`).MatchString(name)
}

// checkFits asks TopicFits of anything.
func checkFits(t *testing.T, pattern string, name string) bool {
	t.Helper()
	got := impl.TopicFits(pattern, name)
	if want := exactFits(pattern, name); got != want {
		t.Fatalf("TopicFits of %q and %q: %v, want %v", pattern, name, got, want)
	}
	return got
}

// sharedOut says it by the words alone: each part ** is tried as none, one, two and more parts *.
func sharedOut(pattern []string, name []string) bool {
	at := slices.Index(pattern, "**")
	if at < 0 {
		return slices.EqualFunc(pattern, name, func(a string, b string) bool { return a == "*" || a == b })
	}
	for many := range len(name) + 1 {
		if sharedOut(slices.Concat(pattern[:at], slices.Repeat([]string{"*"}, many), pattern[at+1:]), name) {
			return true
		}
	}
	return false
}

// checkKeep asks KeepLast of anything.
func checkKeep(t *testing.T, queue []int, depth int, word int) []int {
	t.Helper()
	got, ok := impl.KeepLast(queue, depth, word)
	want, good := []int{}, isAmong(depth-1, deepest) && len(queue) <= depth
	if good {
		want = slices.Concat(queue, []int{word})
	}
	if good && len(want) > depth {
		want = slices.Delete(want, 0, 1)
	}
	if ok != good || !slices.Equal(got, want) {
		t.Fatalf("KeepLast of %v, %d and %d: %v %v, want %v %v", queue, depth, word, got, ok, want, good)
	}
	return got
}

func isSender(s impl.Sender) bool {
	return len(s.Words) <= mostWords && isAmong(s.Acked, len(s.Words)+1) && isAmong(s.Turn, mostWords+1)
}

func cloneSender(s impl.Sender) impl.Sender {
	s.Words = slices.Clone(s.Words)
	return s
}

func sameSender(a impl.Sender, b impl.Sender) bool {
	return slices.Equal(a.Words, b.Words) && a.Acked == b.Acked && a.Turn == b.Turn
}

// exactNext has all that may be sent go round, Turn times.
func exactNext(s impl.Sender, window int) (impl.Parcel, impl.Sender, bool) {
	if !isSender(s) || s.Acked == len(s.Words) || !isAmong(window-1, deepest) {
		return impl.Parcel{}, impl.Sender{}, false
	}
	open := []impl.Parcel{}
	for number, word := range s.Words {
		if number >= s.Acked && len(open) < window {
			open = append(open, impl.Parcel{Number: number, Word: word})
		}
	}
	next := cloneSender(s)
	for range s.Turn {
		open = append(open[1:], open[0])
	}
	next.Turn = []int{1, 2, 3, 4, 5, 6, 7, 8, 9, 10, 11, 12, 13, 14, 15, 16, 17, 18, 19, 20, 21, 22, 23, 24, 25, 26, 27, 28, 29, 0, 0}[s.Turn]
	return open[0], next, true
}

// checkNext asks SendNext of anything.
func checkNext(t *testing.T, s impl.Sender, window int) (impl.Parcel, impl.Sender, bool) {
	t.Helper()
	parcel, next, ok := impl.SendNext(s, window)
	first, then, good := exactNext(s, window)
	if parcel != first || !sameSender(next, then) || ok != good {
		t.Fatalf("SendNext of %+v, window %d: %v %+v %v, want %v %+v %v", s, window, parcel, next, ok, first, then, good)
	}
	return parcel, next, ok
}

// exactTake looks for the next number among the parcels behind the one that was taken last.
func exactTake(got []int, parcels []impl.Parcel) []int {
	if len(got) > mostWords {
		return nil
	}
	all := slices.Clone(got)
	for len(all) < mostWords {
		at := slices.IndexFunc(parcels, func(p impl.Parcel) bool { return p.Number == len(all) })
		if at < 0 {
			break
		}
		all, parcels = append(all, parcels[at].Word), parcels[at+1:]
	}
	return all
}

// checkTake asks TakeParcels of anything.
func checkTake(t *testing.T, got []int, parcels []impl.Parcel) []int {
	t.Helper()
	all, many := impl.TakeParcels(got, parcels)
	if want := exactTake(got, parcels); !slices.Equal(all, want) || many != len(want) {
		t.Fatalf("TakeParcels of %v and %v: %v %d, want %v", got, parcels, all, many, want)
	}
	return all
}

// talk is what TalkAll is asked of.
type talk struct {
	words  []int
	window int
	there  []int
	back   []int
	ticks  int
}

// fatesOf has f for fine, x for lost, 2 for twice and l for late.
func fatesOf(s string) []int {
	l := []int{}
	for _, one := range s {
		l = append(l, map[rune]int{'f': impl.FateFine, 'x': impl.FateLost, '2': impl.FateTwice, 'l': impl.FateLate}[one])
	}
	return l
}

func areFates(l []int) bool {
	return len(l) >= 1 && len(l) <= mostFated && slices.Min(l) >= 0 && slices.Max(l) <= 3
}

func (c talk) good() bool {
	return len(c.words) <= mostWords && isAmong(c.window-1, deepest) && areFates(c.there) && areFates(c.back) && isAmong(c.ticks, lastTick+1)
}

func (c talk) clone() talk {
	return talk{slices.Clone(c.words), c.window, slices.Clone(c.there), slices.Clone(c.back), c.ticks}
}

func (c talk) same(o talk) bool {
	return slices.Equal(c.words, o.words) && c.window == o.window && slices.Equal(c.there, o.there) && slices.Equal(c.back, o.back) && c.ticks == o.ticks
}

// acked is how many are acked ahead of a tick, by all that went back up to then.
func (c talk) acked(ahead int, counts []int) int {
	most := 0
	for tick, many := range counts {
		comes := ahead
		switch c.back[tick%len(c.back)] {
		case impl.FateFine, impl.FateTwice:
			comes = tick
		case impl.FateLate:
			comes = tick + 1
		case impl.FateLost:
			continue
		}
		if comes <= ahead {
			most = max(most, many)
		}
	}
	return most
}

// exact keeps what was sent and what went back at each tick, and nothing else. Each tick takes a turn, so the turn is the tick's number.
func (c talk) exact() (impl.Talked, bool) {
	if !c.good() {
		return impl.Talked{}, false
	}
	numbers, counts, have := []int{}, []int{}, 0
	for tick := range c.ticks {
		acked := c.acked(tick, counts)
		if acked == len(c.words) {
			break
		}
		arrive := []int{}
		if tick > 0 && c.there[(tick-1)%len(c.there)] == impl.FateLate {
			arrive = append(arrive, numbers[tick-1])
		}
		number := acked + tick%mostWords%min(c.window, len(c.words)-acked)
		times := []int{1, 0, 2, 0}[c.there[tick%len(c.there)]]
		for _, one := range append(arrive, slices.Repeat([]int{number}, times)...) {
			if one == have {
				have++
			}
		}
		numbers, counts = append(numbers, number), append(counts, have)
	}
	many := len(numbers)
	return impl.Talked{Got: c.words[:have], Sends: many, Ticks: many, Done: c.acked(many, counts) == len(c.words)}, true
}

func sameTalked(a impl.Talked, b impl.Talked) bool {
	return slices.Equal(a.Got, b.Got) && a.Sends == b.Sends && a.Ticks == b.Ticks && a.Done == b.Done
}

// check asks TalkAll of anything; what arrives is to be a beginning of what is said.
func (c talk) check(t *testing.T) impl.Talked {
	t.Helper()
	got, ok := impl.TalkAll(c.words, c.window, c.there, c.back, c.ticks)
	want, good := c.exact()
	if ok != good || !sameTalked(got, want) {
		t.Fatalf("TalkAll of %+v: %+v %v, want %+v %v", c, got, ok, want, good)
	}
	if len(got.Got) > len(c.words) || !slices.Equal(got.Got, c.words[:len(got.Got)]) || got.Done && len(got.Got) != len(c.words) {
		t.Fatalf("TalkAll of %+v: %+v is no beginning", c, got)
	}
	return got
}

// areStamps says whether a list may be merged.
func areStamps(l []impl.Stamped) bool {
	seen := map[[2]int]int{}
	for _, s := range l {
		seen[[2]int{s.Time, s.From}]++
	}
	return len(l) <= mostStamps && len(seen) == len(l) && slices.IsSortedFunc(l, cmpStamped)
}

func cmpStamped(a impl.Stamped, b impl.Stamped) int {
	return cmp.Or(cmp.Compare(a.Time, b.Time), cmp.Compare(a.From, b.From))
}

// exactMerged lays each word down at its Time and From.
func exactMerged(a []impl.Stamped, b []impl.Stamped) ([]impl.Stamped, bool) {
	if !areStamps(a) || !areStamps(b) {
		return nil, false
	}
	all := map[[2]int]impl.Stamped{}
	for _, s := range slices.Concat(a, b) {
		at := [2]int{s.Time, s.From}
		if before, some := all[at]; some && before.Word != s.Word {
			return nil, false
		}
		all[at] = s
	}
	return slices.SortedFunc(maps.Values(all), cmpStamped), true
}

// checkMerge asks MergeStamped of anything, whichever list stands first.
func checkMerge(t *testing.T, a []impl.Stamped, b []impl.Stamped) ([]impl.Stamped, bool) {
	t.Helper()
	got, ok := impl.MergeStamped(a, b)
	want, good := exactMerged(a, b)
	if ok != good || !slices.Equal(got, want) {
		t.Fatalf("MergeStamped of %v and %v: %v %v, want %v %v", a, b, got, ok, want, good)
	}
	if turned, ok := impl.MergeStamped(b, a); ok != good || !slices.Equal(turned, want) {
		t.Fatalf("MergeStamped of %v and %v: %v %v, want %v %v", b, a, turned, ok, want, good)
	}
	return got, ok
}

// stampsOf has spaces between the words: 3.1=5 is the word 5, from 1, at the time 3.
func stampsOf(s string) []impl.Stamped {
	l := []impl.Stamped{}
	for _, one := range strings.Fields(s) {
		stamp, word, _ := strings.Cut(one, "=")
		time, from, _ := strings.Cut(stamp, ".")
		l = append(l, impl.Stamped{Time: numberOf(time), From: numberOf(from), Word: numberOf(word)})
	}
	return l
}

// countUp has so many numbers, from first on.
func countUp(first int, many int) []int {
	l := []int{}
	for i := range many {
		l = append(l, first+i)
	}
	return l
}

// drawnPart is a good part.
func drawnPart(r *rand.Rand, most int) string {
	part := []byte{"abcz"[r.Intn(4)]}
	for range r.Intn(most) {
		part = append(part, "az059_"[r.Intn(6)])
	}
	return string(part)
}

// drawnTopic has as many parts as it is given, cut where it would be too long.
func drawnTopic(r *rand.Rand, many int, most int) string {
	s := ""
	for range many {
		if part := drawnPart(r, most); len(s)+1+len(part) <= longestTopic {
			s += "/" + part
		}
	}
	return s
}

func drawnSender(r *rand.Rand) impl.Sender {
	s := impl.Sender{Words: drawnWords(r, r.Intn(mostWords+1)), Turn: r.Intn(mostWords + 1)}
	s.Acked = r.Intn(len(s.Words) + 1)
	return s
}

// drawnWords has some words more than once, and some that are far off.
func drawnWords(r *rand.Rand, many int) []int {
	l := []int{}
	for range many {
		l = append(l, []int{r.Intn(4), r.Intn(1000) - 500, strayNumbers[r.Intn(len(strayNumbers))]}[r.Intn(3)])
	}
	return l
}

// drawnFates are of those that are named.
func drawnFates(r *rand.Rand, many int, among string) []int {
	l := []int{}
	for range many {
		l = append(l, fatesOf(among)[r.Intn(len(among))])
	}
	return l
}

func drawnTalk(r *rand.Rand, among string) talk {
	most := []int{3, 8, mostFated}[r.Intn(3)]
	c := talk{words: drawnWords(r, r.Intn(mostWords+1)), window: 1 + r.Intn(deepest), ticks: r.Intn([]int{20, lastTick + 1}[r.Intn(2)])}
	c.there, c.back = drawnFates(r, 1+r.Intn(most), among), drawnFates(r, 1+r.Intn(most), among)
	return c
}

// drawnStamps rise; there are fewer where few stamps can be had.
func drawnStamps(r *rand.Rand, many int, times int, words int) []impl.Stamped {
	l := []impl.Stamped{}
	for range many {
		l = append(l, impl.Stamped{Time: r.Intn(times) - times/2, From: r.Intn(3) - 1, Word: r.Intn(words)})
	}
	slices.SortFunc(l, cmpStamped)
	return slices.CompactFunc(l, func(a impl.Stamped, b impl.Stamped) bool { return cmpStamped(a, b) == 0 })
}
