package console_test

import (
	"strings"
	"testing"

	"wardroom/console"
)

// lines of a script, each "line => answer", and their answers.
func lines(t *testing.T, script string) (in, want []string) {
	t.Helper()
	for _, l := range strings.Split(script, "\n") {
		l = strings.TrimLeft(l, "\t")
		if l == "" {
			continue
		}
		line, answer, is := strings.Cut(l, " => ")
		if !is {
			t.Fatalf("no line of a script: %q", l)
		}
		in, want = append(in, line), append(want, answer)
	}
	return in, want
}

// run lines that are no more than a session may have.
func run(t *testing.T, in []string) []string {
	t.Helper()
	out, err := console.Run(in)
	if err != nil || len(out) != len(in) {
		t.Fatalf("%d lines: %d answers, %v", len(in), len(out), err)
	}
	return out
}

// play a script on a new kernel.
func play(t *testing.T, script string) {
	t.Helper()
	in, want := lines(t, script)
	for i, got := range run(t, in) {
		if got != want[i] {
			t.Errorf("line %d: %s => %s, want %s", i, in[i], got, want[i])
		}
	}
}

// probes: lines that tell all that a kernel of a few processes, groups and paths has, and change nothing.
func probes() []string {
	all := []string{"procs", "spaces", "left", "counts"}
	for _, n := range []string{"0", "1", "2", "3"} {
		for _, l := range []string{"self", "parent", "list", "resident", "regions", "of", "ran", "group"} {
			all = append(all, l+" "+n)
		}
		all = append(all,
			"what "+n+" 0", "what "+n+" 1", "what "+n+" 2", "see "+n+" 1", "see "+n+" 2", "see "+n+" 3",
			"names "+n+" /", "node "+n+" /", "names "+n+" /a", "node "+n+" /a", "node "+n+" /b")
	}
	return all
}
