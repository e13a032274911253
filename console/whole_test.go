package console_test

import (
	"fmt"
	"regexp"
	"slices"
	"strings"
	"sync"
	"testing"

	"wardroom/api"
	"wardroom/console"
)

// answers: what may be told at all: ok, an error, numbers, bytes, names, or that there are none.
var answers = regexp.MustCompile(`\A(?:ok|error [0-9]+|-|-?[0-9]+(?: -?[0-9]+)*|(?:[0-9a-f]{2})+|[a-z0-9.]{1,8}(?: [a-z0-9.]{1,8})*)\z`)

// Z1: lines of whatever bytes are answered.
func TestStrangeLines(t *testing.T) {
	d := dice(3)
	for range 400 {
		in := make([]string, d.n(api.MaxLines+1))
		for i := range in {
			in[i] = strange(&d)
		}
		for i, got := range run(t, in) {
			if !answers.MatchString(got) {
				t.Errorf("%q => %q", in[i], got)
			}
		}
	}
}

// strange line: a right one in which a byte is another one, stands twice, or is missing; or bytes alone.
func strange(d *dice) string {
	line := right[d.n(len(right))]
	at := d.n(len(line))
	switch d.n(5) {
	case 0:
		return line[:at] + string([]byte{byte(d.n(256))}) + line[at+1:]
	case 1:
		return line[:at] + line[at:at+1] + line[at:]
	case 2:
		return line[:at] + line[at+1:]
	case 3:
		b := make([]byte, d.n(250))
		for i := range b {
			b[i] = byte(d.n(256))
		}
		return string(b)
	}
	return line
}

// Z1: the most that a session may ask for is answered.
func TestMostOfAll(t *testing.T) {
	in := slices.Repeat([]string{"run 2000"}, api.MaxLines)
	for i := range 19 {
		in[i] = "fork 0 0"
	}
	for i, got := range run(t, in) {
		if i >= 19 && len(strings.Fields(got)) != api.MaxTicks {
			t.Fatalf("line %d: %d numbers", i, len(strings.Fields(got)))
		}
	}
}

// Z2: each session is of a kernel of its own, also of several that are run at once.
func TestSessionsApart(t *testing.T) {
	in := slices.Concat(begun, right[:20], probes()[:80])
	want := run(t, in)
	var wg sync.WaitGroup
	outs := make([][]string, 8)
	for i := range outs {
		wg.Go(func() { outs[i], _ = console.Run(in) })
	}
	wg.Wait()
	for i, out := range append(outs, run(t, in)) {
		if !slices.Equal(out, want) {
			t.Errorf("session %d: %q, want %q", i, out, want)
		}
	}
}

// Z2: no line is written into, nothing behind the lines is read, and the answers are the caller's.
func TestLinesAndAnswers(t *testing.T) {
	whole := append(slices.Clone(begun), "names 0 /", "fly", "counts")
	was := slices.Clone(whole)
	out := run(t, whole[:len(begun)+1])
	if len(out) != len(begun)+1 || !slices.Equal(whole, was) {
		t.Errorf("%q: %q, it was %q", out, whole, was)
	}
	had := slices.Clone(out)
	other := run(t, whole[:len(begun)+1])
	for i := range other {
		other[i] = "x"
	}
	for i := range whole {
		whole[i] = "y"
	}
	_ = append(out, "z")
	if !slices.Equal(out, had) {
		t.Errorf("the answers are %q, they were %q", out, had)
	}
	if again := run(t, was[:len(begun)+1]); !slices.Equal(again, had) {
		t.Errorf("again: %q, want %q", again, had)
	}
}

// Z3: the error is a bare one of package api.
func TestBareError(t *testing.T) {
	_, err := console.Run(make([]string, api.MaxLines+1))
	if e, is := err.(api.Errno); !is || e != api.ErrBound {
		t.Errorf("%#v, want %#v", err, api.ErrBound)
	}
}

// W1: what is done in a space with a tree of its own is answered as in a session without the lines of others.
func TestSpaceAlone(t *testing.T) {
	d := dice(7)
	for session := range 300 {
		mixed, places := []string{"fork 0 1", "plant", "pivot 1 1", "fork 0 0", "fork 0 1"}, []int{}
		alone := slices.Clone(mixed)
		for len(mixed) < api.MaxLines-3 {
			// Files are the others' only in their own tree, and no pipe of theirs has the number of one of the space.
			others := []string{
				"mkdir 2 /%d", "map 2 %d 1 1", "store 3 %d 7", "how 2 %d 2", "remove 2 /%d", "signal 0 3 %d", "hold 3 %d 1", "run %d",
			}
			if d.one(2) {
				mixed = append(mixed, fmt.Sprintf(others[d.n(len(others))], d.n(9)))
				continue
			}
			own := []string{
				"mkdir 1 /%d", "names 1 /%d", "names 1 /", "map 1 %d 2 1", "store 1 %d 9", "load 1 %d", "regions 1",
				"signal 1 %d 5", "how 1 %d 2", "take 1", "list 1", "self 1", "parent 1", "remove 1 /%d", "resident 1",
			}
			line := own[d.n(len(own))]
			if strings.Contains(line, "%d") {
				line = fmt.Sprintf(line, d.n(9))
			}
			places = append(places, len(mixed))
			mixed, alone = append(mixed, line), append(alone, line)
		}
		got, want := run(t, mixed), run(t, alone)[5:]
		for i, at := range places {
			if got[at] != want[i] {
				t.Fatalf("session %d: %s => %s, alone %s; %q", session, mixed[at], got[at], want[i], mixed[:at])
			}
		}
	}
}
