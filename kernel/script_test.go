package kernel_test

import (
	"encoding/hex"
	"fmt"
	"strconv"
	"strings"
	"testing"

	"wardroom/api"
	"wardroom/kernel"
)

// play a script on a new kernel: lines of "act => answer".
func play(t *testing.T, script string) *kernel.Kernel {
	t.Helper()
	k := kernel.New()
	goOn(t, k, script)
	return k
}

// goOn with a script on a kernel.
func goOn(t *testing.T, k *kernel.Kernel, script string) {
	t.Helper()
	for _, l := range strings.Split(script, "\n") {
		l = strings.TrimSpace(l)
		if l == "" {
			continue
		}
		act, want, is := strings.Cut(l, " => ")
		if !is {
			t.Fatalf("no line of a script: %q", l)
		}
		if got := answer(t, k, act); got != want {
			t.Errorf("%s => %s, want %s", act, got, want)
		}
	}
}

// line of a script: its words.
type line struct {
	t     *testing.T
	words []string
}

func (l line) text(i int) string {
	l.t.Helper()
	if i >= len(l.words) {
		l.t.Fatalf("no act of a script: %v", l.words)
	}
	return l.words[i]
}

func (l line) n(i int) int {
	l.t.Helper()
	n, err := strconv.Atoi(l.text(i))
	if err != nil {
		l.t.Fatalf("no act of a script: %v: %v", l.words, err)
	}
	return n
}

func (l line) on(i int) bool {
	l.t.Helper()
	return l.n(i) > 0
}

// answer of a kernel to an act.
func answer(t *testing.T, k *kernel.Kernel, act string) string {
	t.Helper()
	l := line{t, strings.Fields(act)}
	for _, try := range []func(*kernel.Kernel, line) (string, bool){ofLife, ofMemory, ofGroups, ofFiles, ofPaths} {
		if s, is := try(k, l); is {
			return s
		}
	}
	t.Fatalf("no act of a script: %q", act)
	return ""
}

func ofLife(k *kernel.Kernel, l line) (string, bool) {
	switch l.text(0) {
	case "fork":
		return number(k.Fork(l.n(1), l.on(2))), true
	case "exit":
		return done(k.Exit(l.n(1), l.n(2))), true
	case "wait":
		c, err := k.Wait(l.n(1))
		return told(err, c.Pid, c.Code), true
	case "see":
		return number(k.See(l.n(1), l.n(2))), true
	case "self":
		return number(k.Self(l.n(1))), true
	case "parent":
		return number(k.Parent(l.n(1))), true
	case "list":
		return list(k.List(l.n(1))), true
	case "procs":
		return list(k.Procs(), nil), true
	case "spaces":
		return list(k.Spaces(), nil), true
	case "signal":
		return done(k.Signal(l.n(1), l.n(2), l.n(3))), true
	case "hold":
		return done(k.Hold(l.n(1), l.n(2), l.on(3))), true
	case "how":
		return done(k.How(l.n(1), l.n(2), l.n(3))), true
	case "take":
		return number(k.Take(l.n(1))), true
	}
	return "", false
}

func ofMemory(k *kernel.Kernel, l line) (string, bool) {
	switch l.text(0) {
	case "map":
		return done(k.Map(l.n(1), l.n(2), l.n(3), l.on(4))), true
	case "unmap":
		return done(k.Unmap(l.n(1), l.n(2), l.n(3))), true
	case "protect":
		return done(k.Protect(l.n(1), l.n(2), l.n(3), l.on(4))), true
	case "regions":
		return regions(k.Regions(l.n(1))), true
	case "resident":
		return number(k.Resident(l.n(1))), true
	case "left":
		return number(k.Left(), nil), true
	case "load":
		v, err := k.Load(l.n(1), l.n(2))
		return told(err, int(v)), true
	case "store":
		return done(k.Store(l.n(1), l.n(2), byte(l.n(3)))), true
	}
	return "", false
}

func ofGroups(k *kernel.Kernel, l line) (string, bool) {
	switch l.text(0) {
	case "add":
		return number(k.AddGroup(l.n(1), l.n(2))), true
	case "drop":
		return done(k.DropGroup(l.n(1))), true
	case "limit":
		return done(k.Limit(l.n(1), l.n(2), l.n(3))), true
	case "group":
		g, err := k.Group(l.n(1))
		return told(err, g.Parent, g.MaxProcs, g.MaxPages, g.Procs, g.Pages), true
	case "of":
		return number(k.Of(l.n(1))), true
	case "join":
		return done(k.Join(l.n(1), l.n(2))), true
	case "sleep":
		return done(k.Sleep(l.n(1), true)), true
	case "wake":
		return done(k.Sleep(l.n(1), false)), true
	case "freeze":
		return done(k.Freeze(l.n(1), true)), true
	case "thaw":
		return done(k.Freeze(l.n(1), false)), true
	case "quota":
		return done(k.Quota(l.n(1), l.n(2), l.n(3))), true
	case "run":
		var ran []int
		for range l.n(1) {
			ran = append(ran, k.Tick())
		}
		return list(ran, nil), true
	case "ran":
		return number(k.Ran(l.n(1))), true
	}
	return "", false
}

func ofFiles(k *kernel.Kernel, l line) (string, bool) {
	switch l.text(0) {
	case "open":
		return number(k.Open(l.n(1), l.text(4), l.on(2), l.on(3))), true
	case "close":
		return done(k.Close(l.n(1), l.n(2))), true
	case "dup":
		return number(k.Dup(l.n(1), l.n(2))), true
	case "pipe":
		reading, writing, err := k.Pipe(l.n(1))
		return told(err, reading, writing), true
	case "read":
		s, err := k.Read(l.n(1), l.n(2), l.n(3))
		return toldText(err, hex.EncodeToString([]byte(s))), true
	case "write":
		s, err := hex.DecodeString(strings.TrimPrefix(l.text(3), "-"))
		if err != nil {
			l.t.Fatalf("no act of a script: %v: %v", l.words, err)
		}
		return number(k.Write(l.n(1), l.n(2), string(s))), true
	case "seek":
		return done(k.Seek(l.n(1), l.n(2), l.n(3))), true
	case "what":
		kind, of, at, refs, err := k.What(l.n(1), l.n(2))
		return told(err, kind, of, at, refs), true
	case "counts":
		nodes, pipes, open := k.Counts()
		return told(nil, nodes, pipes, open), true
	}
	return "", false
}

func ofPaths(k *kernel.Kernel, l line) (string, bool) {
	switch l.text(0) {
	case "mkdir":
		return done(k.MakeDir(l.n(1), l.text(2))), true
	case "remove":
		return done(k.Remove(l.n(1), l.text(2))), true
	case "move":
		return done(k.Move(l.n(1), l.text(2), l.text(3))), true
	case "link":
		return done(k.Link(l.n(1), l.text(2), l.text(3))), true
	case "names":
		names, err := k.Names(l.n(1), l.text(2))
		return toldText(err, strings.Join(names, " ")), true
	case "node":
		x, err := k.Node(l.n(1), l.text(2))
		return told(err, x.Kind, x.Links, x.Held, x.Size), true
	case "bind":
		return done(k.Bind(l.n(1), l.text(2), l.text(3))), true
	case "unbind":
		return done(k.Unbind(l.n(1), l.text(2))), true
	case "plant":
		return number(k.Plant()), true
	case "pivot":
		return done(k.Pivot(l.n(1), l.n(2))), true
	}
	return "", false
}

// told: an error, behind which stand noughts alone (Z1), or numbers.
func told(err error, numbers ...int) string {
	if err == nil {
		return list(numbers, nil)
	}
	for _, n := range numbers {
		if n != 0 {
			return fmt.Sprint(fault(err), " with ", numbers)
		}
	}
	return fault(err)
}

// fault: errors are those of package api, bare (Z3).
func fault(err error) string {
	if e, is := err.(api.Errno); is && e != api.OK {
		return fmt.Sprint("error ", int(e))
	}
	return fmt.Sprintf("no error of api: %#v", err)
}

func done(err error) string {
	if err == nil {
		return "ok"
	}
	return fault(err)
}

func number(n int, err error) string { return told(err, n) }

func toldText(err error, s string) string {
	switch {
	case err != nil && s != "":
		return fmt.Sprintf("%s with %q", fault(err), s)
	case err != nil:
		return fault(err)
	case s == "":
		return "-"
	}
	return s
}

func list(numbers []int, err error) string {
	return toldText(err, strings.Trim(fmt.Sprint(numbers), "[]"))
}

func regions(all []api.Region, err error) string {
	var s []string
	for _, r := range all {
		write := 0
		if r.Write {
			write = 1
		}
		s = append(s, fmt.Sprint(r.From, r.Many, write))
	}
	return toldText(err, strings.Join(s, " "))
}

// state: all that a kernel tells of itself without being changed, in lines.
func state(k *kernel.Kernel) []string {
	nodes, pipes, open := k.Counts()
	s := []string{list(k.Procs(), nil), list(k.Spaces(), nil), told(nil, k.Left(), nodes, pipes, open)}
	for g := range api.Groups {
		x, err := k.Group(g)
		s = append(s, fmt.Sprint("group ", g, ": ", x, err))
	}
	for n := range api.Procs {
		s = append(s, stateOf(k, n))
	}
	return s
}

func stateOf(k *kernel.Kernel, n int) string {
	s := []string{
		number(k.Self(n)), number(k.Parent(n)), list(k.List(n)), number(k.Of(n)), number(k.Ran(n)),
		number(k.Resident(n)), regions(k.Regions(n)),
	}
	for fd := range api.Fds {
		kind, of, at, refs, err := k.What(n, fd)
		s = append(s, told(err, kind, of, at, refs))
	}
	for pid := range api.Procs + 1 {
		s = append(s, number(k.See(n, pid)))
	}
	for _, path := range []string{"/", "/a", "/b", "/a/b"} {
		names, err := k.Names(n, path)
		x, err2 := k.Node(n, path)
		s = append(s, fmt.Sprint(names, err, x, err2))
	}
	return fmt.Sprintf("process %d: %s", n, strings.Join(s, "; "))
}

// wantSame: an act by which nothing of a kernel is to be changed.
func wantSame(t *testing.T, k *kernel.Kernel, what string, act func()) {
	t.Helper()
	was := state(k)
	act()
	for i, is := range state(k) {
		if is != was[i] {
			t.Errorf("%s: was %s, and is %s", what, was[i], is)
		}
	}
}
