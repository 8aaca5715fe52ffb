package tests

import (
	"math/rand"
	"strconv"
	"strings"
	"testing"

	"loop.example/g00047/impl"
)

// room is where scripts are tried that are not good.
func room() impl.World { return worldOf("..#|...", "0 3 7") }

// checkWrong: the script is wrong in that line, and nothing else is told.
func checkWrong(t *testing.T, script string, wrong int) {
	t.Helper()
	for _, w := range []impl.World{room(), worldOf(".", "0 0 0")} {
		if got := impl.RunWorld(w, script); got != (impl.Run{Wrong: wrong}) {
			t.Fatalf("RunWorld of %q: %d %q, want %d", script, got.Wrong, got.Log, wrong)
		}
		checkWorld(t, w, script)
	}
}

// checkRight: the script has no line that is wrong.
func checkRight(t *testing.T, script string) {
	t.Helper()
	if _, wrong := checkWorld(t, room(), script); wrong != 0 {
		t.Fatalf("RunWorld of %q: %d", script, wrong)
	}
}

func TestScriptsByHand(t *testing.T) {
	for _, c := range []struct {
		script string
		wrong  int
	}{
		{"\n", 1}, {"\n\n", 1}, {"where", 1}, {"where\n\n", 2}, {"where\nstop", 2}, {"\nwhere\n", 1}, {"where\nfly\n", 2}, {"fly\nfly\n", 1}, {"where\nstop\nreset\nx", 4}, {"where\n\nwhere\n", 2}, {" ", 1}, {"x", 1},
		// A way of 4, none, two digits, a sign.
		{"look 4\n", 1}, {"go 4\n", 1}, {"look\n", 1}, {"go\n", 1}, {"look \n", 1}, {"go \n", 1}, {"look 00\n", 1}, {"look 01\n", 1}, {"go 10\n", 1}, {"go -1\n", 1}, {"go +1\n", 1}, {"go -0\n", 1}, {"look 9\n", 1}, {"look 255\n", 1},
		// A number of 256, a needless nought, none, a sign.
		{"to 256\n", 1}, {"shift 256\n", 1}, {"to 00\n", 1}, {"to 01\n", 1}, {"to 001\n", 1}, {"shift 0255\n", 1}, {"to\n", 1}, {"shift\n", 1}, {"to \n", 1}, {"shift \n", 1}, {"to +1\n", 1}, {"shift -1\n", 1}, {"to -0\n", 1}, {"to 1000\n", 1}, {"to 4294967296\n", 1}, {"to 18446744073709551616\n", 1}, {"to 99999999999999999999999\n", 1},
		{"to 1.0\n", 1}, {"to 1e1\n", 1}, {"to 0x1\n", 1}, {"to 1_0\n", 1}, {"to a\n", 1}, {"to 1a\n", 1}, {"to 1 1\n", 1}, {"to 1/1\n", 1}, {"to \u0661\n", 1}, {"to \uff11\n", 1},
		// A blank too many or too few, and other bytes in its place.
		{"look  0\n", 1}, {" look 0\n", 1}, {"look 0 \n", 1}, {"look0\n", 1}, {"to1\n", 1}, {" where\n", 1}, {"where \n", 1}, {"stop \n", 1}, {" reset\n", 1}, {"where 0\n", 1}, {"where -1\n", 1}, {"stop 1\n", 1}, {"reset 255\n", 1}, {"look\t0\n", 1}, {"look\u00a00\n", 1}, {"look\x000\n", 1}, {"shift\v1\n", 1},
		// Words that are none.
		{"Look 0\n", 1}, {"WHERE\n", 1}, {"looks 0\n", 1}, {"loo 0\n", 1}, {"wher\n", 1}, {"wherewhere\n", 1}, {"stopp\n", 1}, {"rese\n", 1}, {"shif 1\n", 1}, {"t 1\n", 1}, {"g 1\n", 1}, {"halt\n", 1}, {"0\n", 1}, {"0 look\n", 1}, {"far 1\n", 1}, {"look 0 = far 1\n", 1}, {"where =\n", 1},
		// A carriage return, other line ends, bytes that are no text.
		{"where\r\n", 1}, {"\rwhere\n", 1}, {"where\n\rstop\n", 2}, {"where\nstop\r\n", 2}, {"where\r", 1}, {"where\rstop\n", 1}, {"where\u2028", 1}, {"where\u0085\n", 1}, {"where\x00\n", 1}, {"where\n\x00", 2}, {"\xffwhere\n", 1}, {"where\xff\n", 1}, {"\xc3\n", 1}, {"\ufeffwhere\n", 1}, {"whére\n", 1}, {"where\n\x80\n", 2},
		// The first one that is wrong counts.
		{"where\nwhere\nto 256\nfly", 3}, {"look 4\nlook 0", 1}, {"stop\nlook 0", 2},
	} {
		checkWrong(t, c.script, c.wrong)
	}
	for _, script := range []string{"", "where\n", "stop\n", "reset\n", "look 0\n", "look 3\n", "go 0\n", "go 3\n", "to 0\n", "to 9\n", "to 10\n", "to 99\n", "to 100\n", "to 199\n", "to 249\n", "to 255\n", "shift 0\n", "shift 255\n", "where\nwhere\n"} {
		checkRight(t, script)
	}
}

// All numbers behind each word, told as numbers are and in other ways.
func TestNumbersOfCommands(t *testing.T) {
	for n := -300; n <= 1300; n++ {
		for _, word := range []string{"look", "go", "to", "shift", "where", "stop", "reset"} {
			for _, form := range []string{strconv.Itoa(n), "+" + strconv.Itoa(n), "0" + strconv.Itoa(n), "-" + strconv.Itoa(n), strconv.Itoa(n) + "0", strconv.Itoa(n) + " ", " " + strconv.Itoa(n), strconv.FormatInt(int64(n), 16)} {
				most := map[string]int{"look": 3, "go": 3, "to": 255, "shift": 255}[word]
				value, err := strconv.Atoi(form)
				good := err == nil && most > 0 && value >= 0 && value <= most && form == strconv.Itoa(value)
				if _, wrong := exactTale(room(), word+" "+form+"\n"); (wrong == 0) != good {
					t.Fatalf("%q is %d", word+" "+form, wrong)
				}
				if got := impl.RunWorld(room(), "where\n"+word+" "+form+"\n"); got.Wrong != 2 != good {
					t.Fatalf("RunWorld of %q: %v", word+" "+form, got)
				}
			}
		}
	}
}

// checkLined asks of a script of two lines, the second one being the text.
func checkLined(t *testing.T, text string) {
	t.Helper()
	for _, script := range []string{text, "stop\n" + text} {
		want := exactWrong(room(), script)
		if got := impl.RunWorld(room(), script); got.Wrong != want || (got.Log == "") != (want != 0 || script == "") {
			t.Fatalf("RunWorld of %q: %v, want %d", script, got, want)
		}
	}
}

// Each command with one byte put in, left out or changed, at each place, to each byte that there is.
func TestCommandsSpoiltAtOneByte(t *testing.T) {
	for _, command := range []string{"look 0", "look 3", "go 0", "go 3", "to 0", "to 9", "to 25", "to 255", "shift 0", "shift 26", "shift 199", "where", "stop", "reset"} {
		text := command + "\n"
		for at := range len(text) {
			checkLined(t, text[:at]+text[at+1:])
			for b := range 256 {
				one := string([]byte{byte(b)})
				checkLined(t, text[:at]+one+text[at+1:])
				checkLined(t, text[:at]+one+text[at:])
			}
		}
	}
	// All commands, with bytes that might be met.
	for _, command := range commandTexts() {
		text := command + "\n"
		checkLined(t, text)
		for at := range len(text) {
			checkLined(t, text[:at]+text[at+1:])
			for _, one := range []string{" ", "0", "1", "5", "9", "\n", "\r", "-", "e", "\xff"} {
				checkLined(t, text[:at]+one+text[at+1:])
				checkLined(t, text[:at]+one+text[at:])
			}
		}
	}
}

// All texts of up to four of the pieces of which lines are made.
func TestScriptsOfAllPieces(t *testing.T) {
	for n := range 5 {
		eachTexts([]string{"look", "go", "to", "where", "stop", " ", "0", "3", "255", "\n"}, n, func(l []string) {
			checkLined(t, strings.Join(l, ""))
		})
	}
}

// 60 and 61 lines: the first one beyond is wrong, if none ahead of it is.
func TestScriptsOfManyLines(t *testing.T) {
	for _, line := range []string{"where\n", "go 1\n", "shift 255\n", "stop\n"} {
		for _, many := range []int{0, 1, 2, 58, 59, 60} {
			checkRight(t, strings.Repeat(line, many))
		}
		for _, many := range []int{61, 62, 100, 200} {
			checkWrong(t, strings.Repeat(line, many), 61)
		}
	}
	full := strings.Repeat("where\n", 60)
	for _, more := range []string{"where\n", "where", "\n", "fly\n", " ", "\r\n", "look 4\n", "where\nfly\n", "\n\n\n"} {
		checkWrong(t, full+more, 61)
	}
	for _, wrong := range []string{"\n", "fly\n", "look 4\n", "where \n", "to 256\n"} {
		for at := range 61 {
			head := strings.Repeat("where\n", at)
			checkWrong(t, head+wrong, at+1)
			checkWrong(t, head+wrong+full, at+1)
			checkWrong(t, head+wrong+wrong, at+1)
		}
	}
	// A line without its line end, at each place.
	for at := range 61 {
		checkWrong(t, strings.Repeat("where\n", at)+"where", at+1)
	}
}

// 2000 and 2001 bytes: no good script is so long, so which line is wrong tells them apart.
func TestScriptsOfManyBytes(t *testing.T) {
	for _, c := range []struct {
		script string
		wrong  int
	}{
		{strings.Repeat("shift 255\n", 200), 61}, {strings.Repeat("shift 255\n", 60) + strings.Repeat("x", 1400), 61}, {strings.Repeat("shift 255\n", 59) + strings.Repeat("x", 1410), 60}, {strings.Repeat("where\n", 10) + strings.Repeat("y", 1939) + "\n", 11},
		{strings.Repeat("x", 2000), 1}, {strings.Repeat("\n", 2000), 1}, {"where\n" + strings.Repeat(" ", 1994), 2}, {"where\nto " + strings.Repeat("0", 1989) + "1\n", 2}, {"stop\nto 1\n" + strings.Repeat("where\n", 331) + "4444", 61},
	} {
		if len(c.script) != 2000 {
			t.Fatal(len(c.script), "bytes")
		}
		checkWrong(t, c.script, c.wrong)
		checkWrong(t, c.script[:1999], c.wrong)
		for _, longer := range []string{c.script + "\n", c.script + "x", "where\n" + c.script, c.script + c.script, strings.Repeat(c.script, 500)} {
			checkWrong(t, longer, 1)
		}
	}
	// Too long by its bytes alone, its first line being a command.
	checkWrong(t, strings.Repeat("shift 255\n", 200)+"\n", 1)
	checkWrong(t, strings.Repeat("where\n", 334), 1)
	checkWrong(t, strings.Repeat("where\n", 333), 61)
}

// A world that is not good counts ahead of the script.
func TestWrongScriptsInWrongWorlds(t *testing.T) {
	for _, script := range []string{"", "where\n", "fly\n", "where", "\n", strings.Repeat("where\n", 61), strings.Repeat("x", 2000), strings.Repeat("x", 2001)} {
		for _, w := range []impl.World{{}, {Cells: cellsOf("#")}, worldOf("..#", "2 0 0"), worldOf("..#", "0 10 0"), worldOf("..#", "0 0 -1"), worldOf("..#", "3 -1 2147483648")} {
			if got := impl.RunWorld(w, script); got != (impl.Run{Wrong: -1}) {
				t.Errorf("RunWorld of %v, %q: %v", w, script, got)
			}
			checkWorld(t, w, script)
		}
	}
}

// Scripts that are nearly good.
func TestDrawnScriptsNearlyGood(t *testing.T) {
	r := rand.New(rand.NewSource(522))
	right, wrong := 0, map[int]int{}
	for range 20000 {
		w := drawnWorld(r, 4)
		script := drawnScript(r, w, r.Intn(12))
		for range r.Intn(3) {
			script = anyBytes(r, script)
		}
		if _, line := checkWorld(t, w, script); line == 0 {
			right++
		} else {
			wrong[line]++
		}
	}
	if right < 2000 || len(wrong) < 10 {
		t.Error("too few of a kind:", right, wrong)
	}
}
