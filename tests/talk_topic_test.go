package tests

import (
	"math/rand"
	"slices"
	"strings"
	"testing"

	"loop.example/g00047/impl"
)

// a20 and b17 are parts; with them topics of just 60 bytes are made.
var a20, b17 = strings.Repeat("a", 20), "b" + strings.Repeat("_", 16)

var topic60 = "/" + a20 + "/" + a20 + "/" + b17

func TestGoodTopics(t *testing.T) {
	for s, want := range map[string]bool{
		"/a": true, "/arm": true, "/arm/left": true, "/a/b/c/d/e": true, "/a0": true, "/a_": true, "/a__9": true, "/z9_z": true, "/arm/arm": true,
		"/" + a20: true, "/x/" + a20 + "/y": true, topic60: true, strings.Repeat("/a", 30): true, "/a" + strings.Repeat("/bc", 19): true,
		"": false, "/": false, "a": false, "arm/left": false, "//": false, "//a": false, "/a//b": false, "/a/": false, "/a//": false, "/arm/left/": false,
		"/0": false, "/0a": false, "/_": false, "/_a": false, "/a/0": false, "/a/_b": false, "/a/9z/c": false,
		"/A": false, "/aB": false, "/a/Bc": false, "/ ": false, "/ a": false, "/a ": false, "/a b": false, " /a": false, "/a\n": false, "/a\x00": false, "/ä": false, "/a\x80": false, "/\xffa": false,
		"~": false, "~/a": false, "/~": false, "/*": false, "/a/**": false, "/a-b": false, "/a.b": false, "/a\\b": false,
		"/" + a20 + "a": false, "/x/" + a20 + "a/y": false, topic60 + "c": false, topic60 + "/": false, strings.Repeat("/a", 31): false, "/a" + strings.Repeat("/bc", 19) + "d": true, "/a" + strings.Repeat("/bc", 19) + "de": false,
	} {
		if checkTopic(t, s) != want {
			t.Errorf("GoodTopic of %q: %v", s, !want)
		}
	}
	if len(topic60) != longestTopic || impl.MaxTopic != longestTopic {
		t.Error(len(topic60), impl.MaxTopic)
	}
}

// Every byte at the start, in the middle and at the end of a part and of a topic.
func TestEveryByteInATopic(t *testing.T) {
	for code := range 256 {
		b := string([]byte{byte(code)})
		low, figure := code >= 'a' && code <= 'z', code >= '0' && code <= '9' || code == '_'
		for s, want := range map[string]bool{
			"/" + b: low, "/" + b + "a": low, "/" + b + "/c": low, "/c/" + b: low, "/c/" + b + "b": low,
			"/a" + b: low || figure, "/a" + b + "/c": low || figure, "/c/a" + b: low || figure,
			"/a" + b + "a": low || figure || code == '/', "/c/a" + b + "a/d": low || figure || code == '/',
			b: false, b + "a": code == '/', b + "/a": false, b + b: false,
		} {
			if checkTopic(t, s) != want {
				t.Errorf("GoodTopic of %q: %v", s, !want)
			}
		}
	}
}

// All texts of a few bytes, good ones and others.
func TestAllShortTopics(t *testing.T) {
	many := 0
	for _, s := range listsUpTo(4, []byte("/az09_A{` ~*\x80\xff")...) {
		if checkTopic(t, string(s)) {
			many++
		}
	}
	if many == 0 {
		t.Error("none is good")
	}
}

// Parts of each length, topics of each length, and as many parts as there may be.
func TestTopicsOfEachLength(t *testing.T) {
	for n := range 70 {
		part := strings.Repeat("q", n)
		for _, s := range []string{"/" + part, "/a/" + part, "/" + part + "/a", "/a/" + part + "/b", strings.Repeat("/q", n), strings.Repeat("/qq", n), part} {
			checkTopic(t, s)
		}
		if got := impl.GoodTopic("/" + part); got != (n >= 1 && n <= 20) {
			t.Errorf("a part of %d bytes: %v", n, got)
		}
		for _, s := range []string{strings.Repeat("/ab3_5", 12), strings.Repeat("/a2345678901234567890", 4), strings.Repeat("/a", 35)} {
			if n < len(s) {
				checkTopic(t, s[:n])
			}
		}
	}
	for _, s := range []string{strings.Repeat("a", 1<<20), strings.Repeat("/", 1<<20), strings.Repeat("/a", 1<<19), "/" + strings.Repeat("\x80", 1<<20)} {
		checkTopic(t, s)
		checkFits(t, s, "/a")
		checkFits(t, "/a", s)
		checkResolve(t, s, "a")
		checkResolve(t, "/a", s)
	}
}

func TestResolvedTopics(t *testing.T) {
	for _, c := range []struct{ space, name, want string }{
		{"/arm/left", "cmd", "/arm/cmd"}, {"/arm/left", "~/cmd", "/arm/left/cmd"}, {"/arm", "/x", "/x"},
		{"/arm", "cmd", "/cmd"}, {"/arm", "~/cmd", "/arm/cmd"}, {"/arm/left/hand", "cmd", "/arm/left/cmd"}, {"/arm/left/hand", "a/b/c", "/arm/left/a/b/c"},
		{"", "cmd", "/cmd"}, {"", "~/cmd", "/cmd"}, {"", "/cmd", "/cmd"}, {"", "a/b", "/a/b"}, {"", "~/a/b", "/a/b"},
		{"/arm", "/x/y", "/x/y"}, {"/arm/left", "~/x/y", "/arm/left/x/y"},
		// Nothing good comes.
		{"/arm", "", ""}, {"", "", ""}, {"/arm/left", "", ""}, {"/arm", "~", ""}, {"", "~", ""}, {"/arm", "~/", ""}, {"", "~/", ""}, {"/arm", "~x", ""}, {"/arm", "~x/y", ""}, {"/arm", "~~/x", ""}, {"/arm", "~//x", ""},
		{"/arm", "/", ""}, {"", "/", ""}, {"/arm", "//x", ""}, {"/arm", "x/", ""}, {"/arm", "x//y", ""}, {"/arm", "/x/", ""}, {"/arm", "X", ""}, {"/arm", "0", ""}, {"/arm", "_", ""}, {"/arm", "x y", ""}, {"/arm", " x", ""}, {"/arm", "/~/x", ""}, {"/arm", "x/~", ""}, {"/arm", "*", ""}, {"/arm", "\x80", ""}, {"/arm", "~\x80", ""},
		// The space is none, whatever the name is.
		{"arm", "/x", ""}, {"arm", "x", ""}, {"/", "x", ""}, {"/", "/x", ""}, {"/arm/", "x", ""}, {"/arm/", "~/x", ""}, {"/Arm", "/x", ""}, {"/arm/0", "x", ""}, {"~", "/x", ""}, {" ", "/x", ""}, {"/arm/" + a20 + "a", "/x", ""},
		// What is long.
		{topic60, "/x", "/x"}, {topic60, "x", "/" + a20 + "/" + a20 + "/x"}, {topic60, "~/x", ""}, {topic60 + "c", "/x", ""}, {topic60 + "c", "x", ""},
		{"/arm", topic60, topic60}, {"/arm", topic60 + "c", ""}, {"", topic60, topic60}, {"", topic60[1:], topic60}, {"/arm", topic60[1:], topic60}, {"/a/b", topic60[1:], ""}, {"/a/b", topic60[3:], "/a" + "/" + topic60[3:]}, {"/a/b", topic60[2:], ""},
		{"", "~" + topic60[:59], topic60[:59]}, {"", "~" + topic60, ""}, {"/a", "~" + topic60[:58], "/a" + topic60[:58]}, {"/a", "~" + topic60[:59], ""},
		{"", a20, "/" + a20}, {"", a20 + "a", ""}, {"/arm", "~/" + a20 + "a", ""},
	} {
		if got := checkResolve(t, c.space, c.name); got != c.want {
			t.Errorf("ResolveTopic of %q and %q: %q, want %q", c.space, c.name, got, c.want)
		}
	}
}

// All names of a few bytes in spaces of no, one and more parts, and in some that are none.
func TestAllShortNames(t *testing.T) {
	for _, s := range listsUpTo(4, []byte("/~ab_0A \xc3")...) {
		for _, space := range []string{"", "/a", "/a/b", "/a/b/c", "/", "a", "/a/", "/A"} {
			checkResolve(t, space, string(s))
		}
		for _, name := range []string{"", "b", "~/b", "/b"} {
			checkResolve(t, string(s), name)
		}
	}
}

// Names of each length in spaces of each length; what is resolved is a good topic that stays itself.
func TestDrawnNames(t *testing.T) {
	r := rand.New(rand.NewSource(421))
	many := 0
	for range 20000 {
		space, name := drawnTopic(r, r.Intn(8), 1+r.Intn(20)), drawnTopic(r, r.Intn(8), 1+r.Intn(20))
		for _, name := range []string{name, "~" + name, strings.TrimPrefix(name, "/"), strings.TrimPrefix(name, "/") + strings.Repeat("x", r.Intn(4))} {
			got := checkResolve(t, space, name)
			if got == "" {
				continue
			}
			many++
			if !impl.GoodTopic(got) || checkResolve(t, space, got) != got {
				t.Fatalf("ResolveTopic of %q and %q: %q", space, name, got)
			}
		}
	}
	if many < 10000 {
		t.Error("only", many)
	}
}

func TestTopicsThatFit(t *testing.T) {
	deep := strings.Repeat("/a", 30)
	for _, c := range []struct {
		pattern, name string
		want          bool
	}{
		{"/a/*/**", "/a/b", true}, {"/a/*", "/a", false}, {"/a", "/a", true}, {"/a", "/b", false}, {"/a/b", "/a/b", true}, {"/a/b", "/a", false}, {"/a", "/a/b", false}, {"/a/b", "/b/a", false}, {"/a", "/aa", false}, {"/aa", "/a", false},
		{"/*", "/a", true}, {"/*", "/a/b", false}, {"/*/b", "/a/b", true}, {"/*/b", "/b", false}, {"/a/*/c", "/a/b/c", true}, {"/a/*/c", "/a/c", false}, {"/a/*/c", "/a/b/b/c", false}, {"/a/*", "/a/b", true}, {"/a/*", "/a/b/c", false}, {"/*/*", "/a/b", true}, {"/*/*", "/a", false}, {"/*/*", "/a/b/c", false},
		{"/**", "/a", true}, {"/**", "/a/b/c", true}, {"/**/c", "/c", true}, {"/**/c", "/a/b/c", true}, {"/**/c", "/c/d", false}, {"/a/**", "/a", true}, {"/a/**", "/a/b/c/d", true}, {"/a/**", "/b", false}, {"/a/**", "/b/a", false}, {"/a/**/c", "/a/c", true}, {"/a/**/c", "/a/b/b/c", true}, {"/a/**/c", "/a/b/c/d", false}, {"/a/**/c", "/a", false}, {"/a/**/c", "/c", false},
		{"/**/**", "/a", true}, {"/**/**/**", "/a/b", true}, {"/**/b/**", "/b", true}, {"/**/b/**", "/a/b/c", true}, {"/**/b/**", "/a/c", false}, {"/**/a/**/a/**", "/a", false}, {"/**/a/**/a/**", "/a/a", true}, {"/**/a/**/a/**", "/b/a/c/a/d", true}, {"/**/a/b", "/a/c/a/b", true}, {"/**/a/b", "/a/b/a", false}, {"/**/*", "/a", true}, {"/*/**", "/a", true}, {"/*/**/*", "/a", false}, {"/*/**/*", "/a/b", true}, {"/**/*/**/*", "/a/b/c", true}, {"/**/*/*/**", "/a", false},
		// A * beside other bytes is none, and no name has one.
		{"/a*", "/a", false}, {"/a*", "/ab", false}, {"/*a", "/ba", false}, {"/***", "/a", false}, {"/a/***", "/a/b", false}, {"/*/a*", "/a/a", false}, {"/** ", "/a", false}, {"/*_", "/a", false}, {"/*", "/*", false}, {"/**", "/**", false}, {"/a", "/*", false}, {"/*", "/a*", false},
		// No patterns, no names.
		{"", "", false}, {"", "/a", false}, {"/", "/", false}, {"/", "/a", false}, {"*", "/a", false}, {"**", "/a", false}, {"*/a", "/a", false}, {"**/a", "/a", false}, {"a", "a", false}, {"/*/", "/a", false}, {"/**/", "/a", false}, {"//**", "/a", false}, {"/**//a", "/a", false}, {"/A", "/A", false}, {"/*/A", "/a/A", false}, {"/**", "", false}, {"/**", "/", false}, {"/**", "a", false}, {"/**", "/a/", false}, {"/**", "//a", false}, {"/*", "/A", false}, {"/**", "/A", false}, {"/**", "/a b", false}, {"/*", "/" + a20 + "a", false},
		// What is long.
		{topic60, topic60, true}, {topic60 + "c", topic60, false}, {topic60 + "c", topic60 + "c", false}, {"/**", topic60, true}, {"/**", topic60 + "c", false}, {"/*/*/*", topic60, true}, {"/*/*/" + b17, topic60, true}, {"/*", "/" + a20, true},
		{strings.Repeat("/**", 30), "/a", true}, {strings.Repeat("/**", 30), deep, true}, {strings.Repeat("/**", 31), "/a", false}, {strings.Repeat("/*", 30), deep, true}, {strings.Repeat("/*", 31), deep, false}, {strings.Repeat("/*", 29), deep, false}, {strings.Repeat("/*", 30), deep[2:], false}, {"/**" + topic60[:58], topic60[:58], true}, {"/**" + topic60[:59], topic60[:59], false}, {"/*" + topic60[:58], "/a" + topic60[:58], true}, {"/*" + topic60[:59], "/a" + topic60[:58], false},
		{strings.Repeat("/**/a", 15), deep, true}, {strings.Repeat("/**/a", 15), strings.Repeat("/a", 15), true}, {strings.Repeat("/**/a", 15), strings.Repeat("/a", 14), false}, {strings.Repeat("/**/a", 14) + "/**/b", deep, false}, {"/**/b" + strings.Repeat("/**/a", 14), deep, false},
	} {
		if checkFits(t, c.pattern, c.name) != c.want {
			t.Errorf("TopicFits of %q and %q: %v", c.pattern, c.name, !c.want)
		}
	}
}

func slashed(parts []string) string { return "/" + strings.Join(parts, "/") }

// All patterns and names of a few short parts, by the words alone.
func TestAllShortPatterns(t *testing.T) {
	names := listsUpTo(5, "a", "b")[1:]
	for _, pattern := range listsUpTo(5, "a", "b", "*", "**")[1:] {
		for _, name := range names {
			if got, want := impl.TopicFits(slashed(pattern), slashed(name)), sharedOut(pattern, name); got != want {
				t.Fatalf("TopicFits of %q and %q: %v, want %v", pattern, name, got, want)
			}
		}
	}
	names = listsUpTo(3, "a", "b", "ab", "a_0", "")
	for _, pattern := range listsUpTo(3, "a", "ab", "a*", "*", "**", "***", "", "A") {
		for _, name := range names {
			checkFits(t, slashed(pattern), slashed(name))
		}
	}
}

// Patterns made of a name: some parts become *, some runs of parts **, and some ** stand for nothing. They fit, and often do not fit any more where a part is another one.
func TestPatternsMadeOfNames(t *testing.T) {
	r := rand.New(rand.NewSource(422))
	fit, not := 0, 0
	for range 20000 {
		name := drawnTopic(r, 1+r.Intn(30), 1+r.Intn(3))
		parts := strings.Split(name[1:], "/")
		pattern := []string{}
		for i := 0; i < len(parts); i++ {
			switch r.Intn(6) {
			case 0:
				pattern = append(pattern, "*")
			case 1:
				pattern, i = append(pattern, "**"), i+r.Intn(4)
			case 2:
				pattern = append(pattern, "**", parts[i])
			default:
				pattern = append(pattern, parts[i])
			}
		}
		fits := isPattern(slashed(pattern))
		if checkFits(t, slashed(pattern), name) != fits {
			t.Fatalf("TopicFits of %q and %q: %v", pattern, name, !fits)
		}
		other := slices.Clone(parts)
		other[r.Intn(len(other))] = drawnPart(r, 3)
		if checkFits(t, slashed(pattern), slashed(other)) {
			fit++
		} else {
			not++
		}
		checkFits(t, slashed(pattern), slashed(parts[1:]))
		checkFits(t, slashed(pattern), slashed(append(other, "x")))
	}
	if fit < 1000 || not < 1000 {
		t.Error("fit and do not:", fit, not)
	}
}

// A topic fits itself, and the patterns that all fit.
func TestTopicsFitThemselves(t *testing.T) {
	r := rand.New(rand.NewSource(423))
	for range 5000 {
		name := drawnTopic(r, 1+r.Intn(30), 1+r.Intn(20))
		if name == "" {
			continue
		}
		stars := slices.Repeat([]string{"*"}, strings.Count(name, "/"))
		for _, pattern := range []string{name, "/**", slashed(stars)} {
			if !checkFits(t, pattern, name) {
				t.Fatalf("%q does not fit %q", name, pattern)
			}
		}
		for _, pattern := range []string{slashed(stars[1:]), slashed(append(stars, "*"))} {
			if checkFits(t, pattern, name) {
				t.Fatalf("%q fits %q", name, pattern)
			}
		}
	}
}
