package console_test

import (
	"slices"
	"strings"
	"testing"

	"wardroom/api"
)

// begun: lines by which a kernel has two processes, in a space each, a group, pages, open files and paths.
var begun = []string{
	"fork 0 1", "add 0 100", "map 0 0 2 1", "store 0 0 7", "mkdir 0 /a", "open 0 1 1 /b", "write 0 0 616263",
	"seek 0 0 1", "pipe 0", "write 0 2 6465",
}

// right: a line of each kind, that is answered without an error behind those of begun.
var right = []string{
	"fork 0 1", "see 0 1", "self 0", "parent 1", "resident 0", "of 0", "ran 0", "dup 0 0", "add 0 100", "plant", "left",
	"open 0 1 1 /c", "write 0 0 6a6b", "load 0 3", "exit 1 3", "signal 0 2 5", "hold 0 5 1", "how 0 5 2",
	"map 0 8 1 1", "protect 0 0 1 0", "unmap 0 0 1", "store 0 3 7", "drop 1", "limit 1 2 3", "join 1 1", "sleep 0",
	"wake 0", "freeze 1", "thaw 1", "quota 1 2 3", "close 0 0", "seek 0 0 2", "mkdir 0 /d", "remove 0 /a",
	"move 0 /a /c", "link 0 /b /c", "bind 0 /a /", "pivot 0 0", "list 0", "procs", "spaces", "regions 0", "group 1",
	"run 3", "pipe 0", "read 0 0 1", "what 0 0", "names 0 /", "node 0 /b", "counts",
}

// sorry: a line of each kind that those of right have not, as it is answered by an error behind those of begun.
var sorry = []string{"take 0", "wait 0", "unbind 0 /a"}

// wantRefused: to a line error 9 is answered, and by it the kernel doesn't change.
func wantRefused(t *testing.T, line string) {
	t.Helper()
	had := run(t, slices.Concat(begun, probes()))
	out := run(t, slices.Concat(begun, []string{line}, probes()))
	if got := out[len(begun)]; got != "error 9" {
		t.Errorf("%q => %s, want error 9", line, got)
	}
	if !slices.Equal(out[len(begun)+1:], had[len(begun):]) {
		t.Errorf("%q: the kernel is %q, it was %q", line, out[len(begun)+1:], had[len(begun):])
	}
}

// first answer to a line behind those of begun.
func first(t *testing.T, line string) string {
	t.Helper()
	return run(t, slices.Concat(begun, []string{line}))[len(begun)]
}

// N1: each line is one, as it stands.
func TestRightLines(t *testing.T) {
	for _, line := range right {
		if got := first(t, line); strings.HasPrefix(got, "error") {
			t.Errorf("%q => %s", line, got)
		}
	}
	for _, line := range sorry {
		if got := first(t, line); got == "error 9" || !strings.HasPrefix(got, "error ") {
			t.Errorf("%q => %s", line, got)
		}
	}
}

// N2: blanks elsewhere than one between two words.
func TestBlanks(t *testing.T) {
	for _, line := range slices.Concat(right, sorry) {
		for _, l := range []string{" " + line, line + " ", "\t" + line, line + "\n", line + "\r", line + "\x00"} {
			// A path has all bytes but blanks, so what stands behind it is the kernel's to refuse.
			wantRefused(t, l)
		}
		for i := range line {
			if line[i] == ' ' {
				wantRefused(t, line[:i]+" "+line[i:])
				wantRefused(t, line[:i]+"\t"+line[i+1:])
				wantRefused(t, line[:i]+line[i+1:])
			}
		}
	}
	for _, line := range []string{"", " ", "  ", "\t", "\n", "-", "0"} {
		wantRefused(t, line)
	}
}

// N2: an empty word is none, also where a path, or bytes, would stand, whoever acts.
func TestEmptyWords(t *testing.T) {
	for _, line := range []string{
		"mkdir 0 ", "mkdir 9 ", "names 9 ", "open 9 0 0 ", "move 9  /a", "move 9 /a ", "write 9 0 ", "write 0 0 ",
		"self ", "self  0", "procs ", " procs",
	} {
		wantRefused(t, line)
	}
}

// N2: words too many, or too few; whoever acts.
func TestHowManyWords(t *testing.T) {
	for _, line := range slices.Concat(right, sorry) {
		for _, more := range []string{"0", "1", "-1", "/a", "-"} {
			wantRefused(t, line+" "+more)
		}
		words := strings.Split(line, " ")
		for many := range words {
			wantRefused(t, strings.Join(words[:many], " "))
		}
	}
}

// N2: names that no command has.
func TestNoCommands(t *testing.T) {
	for _, line := range slices.Concat(right, sorry) {
		name, rest, _ := strings.Cut(line, " ")
		for _, other := range []string{strings.ToUpper(name), strings.ToUpper(name[:1]) + name[1:], name[1:], name + "x", "fly"} {
			wantRefused(t, strings.TrimSpace(other+" "+rest))
		}
	}
}

// isNumber: is it one? (Bytes of the lines here have letters, too.)
func isNumber(word string) bool { return strings.Trim(word, "0123456789") == "" }

// N2: words where numbers stand that are none: nothing else on the line matters.
func TestNoNumbers(t *testing.T) {
	wrong := []string{
		"00", "01", "007", "-0", "-2", "-01", "-10", "+1", "+0", "100000", "000000", "123456", "9223372036854775808",
		"1.0", "1e1", "0x1", "1_0", "a", "-", "--1", "-1-", "1-", "/a", "\u0661", "１", "1\x00", "O",
	}
	for _, line := range slices.Concat(right, sorry) {
		words := strings.Split(line, " ")
		for i, word := range words[1:] {
			if !isNumber(word) {
				continue
			}
			for _, w := range wrong {
				other := slices.Clone(words)
				other[i+1] = w
				wantRefused(t, strings.Join(other, " "))
			}
		}
	}
}

// N1: all numbers of at most five digits, and -1, are some.
func TestNumbers(t *testing.T) {
	for _, n := range []string{"20", "99", "100", "1000", "9999", "10000", "54321", "99999", "-1"} {
		if got := first(t, "self "+n); got != "error 1" {
			t.Errorf("self %s => %s, want error 1", n, got)
		}
	}
	for n, want := range map[string]string{"0": "1", "1": "1", "2": "error 2", "9": "error 2", "10": "error 2", "19": "error 2"} {
		if got := first(t, "self "+n); got != want {
			t.Errorf("self %s => %s, want %s", n, got, want)
		}
	}
}

// N1: what is above 0 is so, -1 and 0 are not.
func TestFlags(t *testing.T) {
	for _, n := range []string{"-1", "0", "1", "2", "10", "99999"} {
		on := n != "-1" && n != "0"
		say := func(so, not string) string {
			if on {
				return so
			}
			return not
		}
		for _, c := range []struct{ line, then, want string }{
			{"fork 0 " + n, "spaces", say("0 1 2", "0 1")},
			{"map 0 8 1 " + n, "regions 0", say("0 2 1 8 1 1", "0 2 1 8 1 0")},
			{"protect 0 0 2 " + n, "regions 0", say("0 2 1", "0 2 0")},
			{"open 0 " + n + " 1 /c", "write 0 3 61", say("1", "error 8")},
			{"open 0 1 " + n + " /c", "names 0 /", say("a b c", "a b")},
		} {
			if got := run(t, slices.Concat(begun, []string{c.line, c.then}))[len(begun)+1]; got != c.want {
				t.Errorf("%s, then %s => %s, want %s", c.line, c.then, got, c.want)
			}
		}
		in := slices.Concat(begun, []string{"fork 0 0", "hold 2 5 " + n, "signal 0 3 5", "procs"})
		if got, want := run(t, in)[len(in)-1], say("0 1 2", "0 1"); got != want {
			t.Errorf("%q => %s, want %s", in, got, want)
		}
	}
}

// N1: bytes, all of them, are written and told by two digits each.
func TestBytes(t *testing.T) {
	const base = "0123456789abcdef"
	for b := 0; b < 256; b += 32 {
		x := ""
		for c := b; c < b+32; c++ {
			x += string(base[c/16]) + string(base[c%16])
		}
		out := run(t, []string{"open 0 1 1 /a", "write 0 0 " + x, "seek 0 0 0", "read 0 0 40", "read 0 0 40", "write 0 0 -"})
		if want := []string{"0", "32", "ok", x, "-", "0"}; !slices.Equal(out, want) {
			t.Errorf("%s: %q, want %q", x, out, want)
		}
	}
}

// N2: an X that is none, whoever acts, and whatever its number is for.
func TestNoBytes(t *testing.T) {
	for _, x := range []string{
		"6", "616", "6g", "g6", "6A", "A6", "FF", "xy", "XY", "0x61", "--", "-6", "6-", "-61", "61-", "61-62", "é", "6\x00",
		"\x00\x00", "61,62", "/6", ":6", "`6", "6/", "6:", "6`", "+1", ".5",
	} {
		for _, to := range []string{"0 0", "0 2", "0 5", "0 9", "9 0", "-1 -1"} {
			wantRefused(t, "write "+to+" "+x)
		}
	}
}

// N2: lines of more than MaxLine bytes.
func TestLongLines(t *testing.T) {
	long := func(head, more string, many int) string {
		return head + strings.Repeat(more, (many-len(head))/len(more)) + strings.Repeat("x", (many-len(head))%len(more))
	}
	for _, c := range []struct {
		line, want string
	}{
		{long("mkdir 9 /", "a", api.MaxLine), "error 2"},
		{long("mkdir 9 /", "a", api.MaxLine+1), "error 9"},
		{long("mkdir 9 /", "a", 1000000), "error 9"},
		{long("mkdir 9 /", "é", api.MaxLine), "error 2"},
		{long("mkdir 9 /", "é", api.MaxLine+1), "error 9"},
		{long("mkdir 9 /", "é", api.MaxLine+2), "error 9"},
		{long("mkdir 9 /", "\xff", api.MaxLine), "error 2"},
		{long("mkdir 9 /", "\xff", api.MaxLine+1), "error 9"},
		{long("write 9 0 ", "0", api.MaxLine), "error 2"},
		{long("write 9 10 ", "0", api.MaxLine+1), "error 9"},
		{long("write 0 2 ", "61", api.MaxLine), "10"},
		{long("x", "x", api.MaxLine), "error 9"},
		{long("x", "x", api.MaxLine+1), "error 9"},
	} {
		if got := first(t, c.line); got != c.want {
			t.Errorf("a line of %d bytes, %.20q => %s, want %s", len(c.line), c.line, got, c.want)
		}
	}
}

// N1: a path is all that stands between blanks: which bytes it may have the kernel says, behind who acts.
func TestPathsAsTheyAre(t *testing.T) {
	for _, path := range []string{"-", "a", "//", "/A", "/a\tb", "/\x00", "\xff", "/é", "-1", "0", "/a/", "/.", "/" + strings.Repeat("a", 61)} {
		for _, line := range []string{"mkdir %d %p", "names %d %p", "open %d 1 1 %p", "move %d %p /x", "bind %d %p /"} {
			line = strings.ReplaceAll(line, "%p", path)
			wantRefused(t, strings.ReplaceAll(line, "%d", "0"))
			for n, want := range map[string]string{"9": "error 2", "20": "error 1", "-1": "error 1"} {
				if got := first(t, strings.ReplaceAll(line, "%d", n)); got != want {
					t.Errorf("%q by %s => %s, want %s", line, n, got, want)
				}
			}
		}
	}
}
