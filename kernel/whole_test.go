package kernel_test

import (
	"fmt"
	"slices"
	"strconv"
	"strings"
	"testing"

	"wardroom/api"
	"wardroom/kernel"
)

// drawnPath of few names; now and then it is none.
func drawnPath(d *dice) string {
	s := ""
	for range d.n(4) {
		s += "/" + []string{"a", "a", "b", "c", "d", ".."}[d.n(6)]
	}
	if s == "" {
		s = "/"
	}
	if d.one(20) {
		s += []string{"/", "//a", "/A"}[d.n(3)]
	}
	return s
}

// drawnOnFiles: an act of a process N on open files and paths.
func drawnOnFiles(d *dice) string {
	fd := d.n(5) - d.n(20)/19
	switch d.n(20) {
	case 0, 1, 2, 3:
		return fmt.Sprintf("open N %d %d %s", d.n(4), d.n(3), drawnPath(d))
	case 4:
		return fmt.Sprintf("close N %d", fd)
	case 5:
		return fmt.Sprintf("dup N %d", fd)
	case 6:
		return "pipe N"
	case 7, 8:
		return fmt.Sprintf("read N %d %d", fd, d.n(9)-1)
	case 9, 10:
		return fmt.Sprintf("write N %d %s", fd, "00112233445566778899"[2*d.n(5):10+2*d.n(6)])
	case 11:
		return fmt.Sprintf("seek N %d %d", fd, d.n(43)-1)
	case 12, 13, 14:
		return fmt.Sprintf("mkdir N %s", drawnPath(d))
	case 15:
		return fmt.Sprintf("remove N %s", drawnPath(d))
	case 16:
		return fmt.Sprintf("move N %s %s", drawnPath(d), drawnPath(d))
	case 17:
		return fmt.Sprintf("link N %s %s", drawnPath(d), drawnPath(d))
	case 18:
		return fmt.Sprintf("bind N %s %s", drawnPath(d), drawnPath(d))
	}
	return fmt.Sprintf("unbind N %s", drawnPath(d))
}

// by: an act of N, by a process.
func by(act string, n int) string { return strings.Replace(act, "N", strconv.Itoa(n), 1) }

// refusedWhole: is that the answer of an act by which nothing may have been changed (Z1)?
func refusedWhole(act, answer string) bool {
	if !strings.HasPrefix(answer, "error ") {
		return false
	}
	word := strings.Fields(act)[0]
	mayEnd := word == "write" && answer == fault(api.ErrBroken) || word == "load" || word == "store"
	return !mayEnd
}

// M11, W7, W8, Z1: whatever was done, acts that are refused change nothing, and what is no more leaves nothing.
func TestNothingIsLeft(t *testing.T) {
	d := dice(13)
	for range 60 {
		k := kernel.New()
		many, trees := []int{3, 5, 9, api.Procs + 1}[d.n(4)], 1
		for range 200 {
			n := d.n(many) - d.n(40)/39
			act := by(drawnOnFiles(&d), n)
			switch {
			case d.one(3):
				act = drawn(&d, n, 3)
			case d.one(30):
				act = fmt.Sprintf("pivot %d %d", n, d.n(trees+1))
			case d.one(60):
				act = "plant"
			}
			was, looked := []string{}, d.one(8)
			if looked {
				was = state(k)
			}
			got := answer(t, k, act)
			if looked && refusedWhole(act, got) && !slices.Equal(was, state(k)) {
				t.Fatalf("%s => %s changed something", act, got)
			}
			if act == "plant" && !strings.HasPrefix(got, "error") {
				trees++
			}
		}
		endAll(t, k)
		wantAlone(t, k)
		wantTrees(t, k, trees)
		if t.Failed() {
			return
		}
	}
}

// endAll processes but the first, which waits for them.
func endAll(t *testing.T, k *kernel.Kernel) {
	t.Helper()
	for n := 1; n < api.Procs; n++ {
		if slices.Contains(k.Procs(), n) {
			goOn(t, k, fmt.Sprintf("exit %d 9 => ok", n))
		}
	}
	for {
		_, err := k.Wait(0)
		if err == api.ErrNone {
			return
		}
		if err != nil {
			t.Fatalf("Wait(0): %v", err)
		}
	}
}

// wantAlone: the first process has nobody beside it, and once it let all go there is nothing.
func wantAlone(t *testing.T, k *kernel.Kernel) {
	t.Helper()
	pages, _ := k.Resident(0)
	goOn(t, k, fmt.Sprintf("procs => 0\nspaces => 0\nlist 0 => 1\nleft => %d", api.Frames-pages))
	in, _ := k.Of(0)
	for n := range api.Groups {
		g, err := k.Group(n)
		if err != nil {
			continue
		}
		if (g.Procs != 0 || g.Pages != 0) && (g.Procs != 1 || g.Pages != pages) || n == in && g.Procs != 1 {
			t.Errorf("group %d: %v", n, g)
		}
	}
	for fd := range api.Fds {
		k.Close(0, fd)
	}
	if _, pipes, open := k.Counts(); pipes != 0 || open != 0 {
		t.Errorf("%d pipes and %d open files are left", pipes, open)
	}
	goOn(t, k, "unmap 0 0 16 => ok\nleft => 64")
}

// wantTrees: each node has as many names as its links say, and is held by nobody; there are no others.
func wantTrees(t *testing.T, k *kernel.Kernel, trees int) {
	t.Helper()
	nodes := 0
	for tree := range trees {
		goOn(t, k, fmt.Sprintf("pivot 0 %d => ok", tree))
		names := map[int]int{}
		nodes += dirs(t, k, "/", names)
		nodes += len(names)
		links(t, k, "/", names)
	}
	if got, _, _ := k.Counts(); got != nodes {
		t.Errorf("there are %d nodes, and %d in the trees", got, nodes)
	}
}

// dirs: how many there are from a path on; of each file its names are counted.
func dirs(t *testing.T, k *kernel.Kernel, path string, names map[int]int) int {
	t.Helper()
	held := 0
	if path == "/" {
		held = 1
	}
	goOn(t, k, fmt.Sprintf("node 0 %s => 2 1 %d %d", path, held, len(namesOf(k, path))))
	many := 1
	for _, kid := range kids(k, path) {
		if x, _ := k.Node(0, kid); x.Kind == api.File {
			names[nodeOf(t, k, kid)]++
			continue
		}
		if up, here := namesOf(k, kid+"/.."), namesOf(k, path); !slices.Equal(up, here) {
			t.Errorf("from %s '..' leads to %v, not to %v", kid, up, here)
		}
		many += dirs(t, k, kid, names)
	}
	return many
}

// links of each file are as many as its names.
func links(t *testing.T, k *kernel.Kernel, path string, names map[int]int) {
	t.Helper()
	for _, kid := range kids(k, path) {
		x, _ := k.Node(0, kid)
		if x.Kind == api.Dir {
			links(t, k, kid, names)
			continue
		}
		if want := names[nodeOf(t, k, kid)]; x.Links != want || x.Held != 0 {
			t.Errorf("%s: %v, want %d links, and held by nobody", kid, x, want)
		}
	}
}

func namesOf(k *kernel.Kernel, path string) []string {
	all, _ := k.Names(0, path)
	return all
}

// kids: the paths of what is in a directory.
func kids(k *kernel.Kernel, path string) []string {
	var all []string
	for _, name := range namesOf(k, path) {
		all = append(all, strings.TrimSuffix(path, "/")+"/"+name)
	}
	return all
}

// nodeOf a file, as its open file tells it.
func nodeOf(t *testing.T, k *kernel.Kernel, path string) int {
	t.Helper()
	fd, err := k.Open(0, path, false, false)
	if err != nil {
		t.Fatalf("Open of %s: %v", path, err)
	}
	_, of, _, _, _ := k.What(0, fd)
	k.Close(0, fd)
	return of
}

// M11, W5: what is written into a pipe comes out of it, in that order, whoever writes and reads.
func TestBytesOfAPipe(t *testing.T) {
	d := dice(14)
	for range 20 {
		k := play(t, "pipe 0 => 0 1\nfork 0 0 => 2\nfork 0 1 => 3\nfork 2 0 => 2")
		in, out := "", ""
		for range 200 {
			n := d.n(4)
			if d.flag() == 0 {
				s := "some\x00of\xffthese bytes"[d.n(9) : 9+d.n(10)]
				many, _ := k.Write(n, 1, s)
				in += s[:many]
				continue
			}
			s, _ := k.Read(n, 0, d.n(9))
			out += s
		}
		rest, _ := k.Read(0, 0, api.PipeRoom)
		if out += rest; in != out {
			t.Fatalf("%q was written, and %q was read", in, out)
		}
	}
}

// ward: a space with a tree of its own, in some kernel.
type ward struct {
	k    *kernel.Kernel
	head int
}

// alone: the ward is all that its kernel has.
func alone() ward { return ward{kernel.New(), 0} }

// amongOthers: the kernel has others beside the ward.
func amongOthers(t *testing.T) ward {
	t.Helper()
	return ward{play(t, `
		fork 0 0 => 2
		plant => 1
		fork 0 1 => 3
		pivot 2 1 => ok
		fork 1 0 => 4
	`), 2}
}

// answer to an act of the process that has a number in the ward.
func (w ward) answer(t *testing.T, pid int, act string) string {
	t.Helper()
	n, err := w.k.See(w.head, pid)
	if err != nil {
		return fault(err)
	}
	s := answer(t, w.k, by(act, n))
	if kind, rest, is := strings.Cut(s, " "); is && strings.HasPrefix(act, "what") && kind != "error" {
		// The number of a node or a pipe is that of the kernel, not of the ward.
		_, rest, _ = strings.Cut(rest, " ")
		return kind + " " + rest
	}
	return s
}

// members of the ward: how many, live or gone, and which of them as processes are live.
func (w ward) members() (many int, live []int) {
	pids, _ := w.k.List(w.head)
	for _, pid := range pids {
		if n, err := w.k.See(w.head, pid); err == nil {
			live = append(live, n)
		}
	}
	return len(pids), live
}

// budget: what one side may still take of what all have in common.
type budget struct{ spaces, nodes, open, pipes int }

// allows an act?
func (b *budget) allows(act string) bool {
	word := strings.Fields(act)[0]
	switch {
	case strings.HasPrefix(act, "fork") && strings.HasSuffix(act, " 1"):
		b.spaces--
		return b.spaces >= 0
	case word == "mkdir":
		b.nodes--
		return b.nodes >= 0
	case word == "open":
		b.nodes--
		b.open--
		return b.nodes >= 0 && b.open >= 0
	case word == "pipe":
		b.pipes--
		b.open -= 2
		return b.pipes >= 0 && b.open >= 0
	}
	return true
}

// drawnInWard: an act of a process N; fork: may there be more processes?
func drawnInWard(d *dice, pid int, fork bool) string {
	switch d.n(24) {
	case 0, 1, 2:
		if fork && pid == 1 {
			return fmt.Sprintf("fork N %d", d.flag())
		}
		if fork {
			return "fork N 0"
		}
	case 3:
		if pid > 1 {
			return fmt.Sprintf("exit N %d", d.n(257))
		}
	case 4, 5:
		return "wait N"
	case 6:
		return fmt.Sprintf("signal N %d %d", d.n(9), d.n(10))
	case 7:
		return fmt.Sprintf("hold N %d %d", d.n(10), d.flag())
	case 8:
		return fmt.Sprintf("how N %d %d", d.n(10), d.n(4))
	case 9:
		return "take N"
	case 10, 11:
		return fmt.Sprintf("map N %d %d %d", d.n(3), d.n(3), d.n(3))
	case 12:
		return fmt.Sprintf("unmap N %d %d", d.n(4), d.n(4))
	case 13, 14:
		return fmt.Sprintf("store N %d %d", d.n(40), d.n(256))
	case 15:
		return fmt.Sprintf("load N %d", d.n(40))
	case 16:
		return []string{"self N", "parent N", "list N", "regions N", "resident N"}[d.n(5)]
	case 17:
		return fmt.Sprintf("what N %d", d.n(api.Fds))
	case 18:
		return "names N " + drawnPath(d)
	case 19:
		return "node N " + drawnPath(d)
	}
	return drawnOnFiles(d)
}

// disturb: others than those of the ward do something, none of it to the ward.
func (w ward) disturb(t *testing.T, d *dice, b *budget) {
	t.Helper()
	many, ours := w.members()
	all, _ := w.k.List(0)
	others := slices.DeleteFunc(w.k.Procs(), func(n int) bool { return slices.Contains(ours, n) })
	n := others[d.n(len(others))]
	if d.one(6) {
		w.k.Tick()
	}
	act := drawnInWard(d, 2-d.flag(), len(all)-many < 6)
	if n == 0 && strings.HasPrefix(act, "exit") || !b.allows(act) {
		return
	}
	if f := strings.Fields(act); f[0] == "signal" {
		whom, err := w.k.See(n, int(f[2][0]-'0'))
		if err != nil || slices.Contains(ours, whom) {
			return
		}
	}
	answer(t, w.k, by(act, n))
}

// M11, W1: what those of a space with a tree of its own do is answered as if there were nobody else.
func TestWardIsAlone(t *testing.T) {
	d := dice(15)
	for range 60 {
		one, other := alone(), amongOthers(t)
		mine, theirs := budget{2, 18, 12, 3}, budget{1, 12, 8, 3}
		for range 150 {
			for range d.n(4) {
				other.disturb(t, &d, &theirs)
			}
			many, _ := one.members()
			pid := 1 + d.n(many+1)
			if act := drawnInWard(&d, pid, many < 8); mine.allows(act) {
				want, got := one.answer(t, pid, act), other.answer(t, pid, act)
				if got != want {
					t.Fatalf("%d: %s => %s among others, %s alone", pid, act, got, want)
				}
			}
		}
	}
}
