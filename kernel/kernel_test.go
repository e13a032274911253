package kernel_test

import (
	"fmt"
	"math"
	"testing"

	"wardroom/api"
	"wardroom/kernel"
)

// Numbers that are no process's, no group's, no page's, and nobody's number for an open file.
var strange = []int{-1, -2, math.MinInt, math.MaxInt, math.MinInt32, math.MaxInt32, 1 << 32, 1000}

// deeds: all acts that name a process that acts, right but for that process.
var deeds = []string{
	"fork %d 0", "fork %d 1", "exit %d 3", "wait %d", "see %d 1", "self %d", "parent %d", "list %d",
	"signal %d 2 5", "hold %d 5 1", "how %d 5 2", "take %d",
	"map %d 8 1 1", "unmap %d 0 1", "protect %d 0 1 0", "regions %d", "resident %d", "load %d 3", "store %d 3 7",
	"of %d", "join %d 0", "sleep %d", "wake %d", "ran %d",
	"open %d 1 1 /f", "close %d 0", "dup %d 0", "pipe %d", "read %d 0 1", "write %d 0 61", "seek %d 0 1", "what %d 0",
	"mkdir %d /d", "remove %d /a", "move %d /a /c", "link %d /b /c", "names %d /", "node %d /",
	"bind %d /a /", "unbind %d /a", "pivot %d 0",
}

// wantRefused: to the act a kernel answers the error, and stays as it is.
func wantRefused(t *testing.T, k *kernel.Kernel, act string, err api.Errno) {
	t.Helper()
	wantSame(t, k, act, func() {
		t.Helper()
		if got, want := answer(t, k, act), fault(err); got != want {
			t.Errorf("%s => %s, want %s", act, got, want)
		}
	})
}

// M1: the process 0 is alone, without a parent, and nothing of it is mapped or open.
func TestNew(t *testing.T) {
	play(t, `
		procs => 0
		spaces => 0
		self 0 => 1
		parent 0 => 0
		list 0 => 1
		see 0 1 => 0
		wait 0 => error 2
		take 0 => error 2
		of 0 => 0
		group 0 => -1 -1 -1 1 0
		group 1 => error 2
		regions 0 => -
		resident 0 => 0
		left => 64
		counts => 1 0 0
		what 0 0 => error 2
		what 0 5 => error 2
		names 0 / => -
		node 0 / => 2 1 1 0
		ran 0 => 0
		run 3 => 0 0 0
		ran 0 => 3
	`)
}

// M1: kernels go on apart.
func TestApart(t *testing.T) {
	k, other := kernel.New(), kernel.New()
	wantSame(t, other, "acts on another kernel", func() {
		goOn(t, k, `
			fork 0 1 => 2
			map 1 0 2 1 => ok
			store 1 3 7 => ok
			open 1 1 1 /f => 0
			pipe 0 => 0 1
			add 0 5 => 1
			plant => 1
			run 3 => 0 1 0
		`)
	})
	wantSame(t, k, "acts on another kernel", func() { goOn(t, other, "fork 0 0 => 2\nmkdir 0 /a => ok\nexit 1 2 => ok") })
}

// M1, Z1, Z3: what names no process, or one that isn't live, is refused, and nothing is changed.
func TestWhoActs(t *testing.T) {
	// The process 1 is live, 2 is gone, 3 was one, and is no more.
	k := play(t, `
		mkdir 0 /a => ok
		open 0 1 1 /b => 0
		map 0 0 2 1 => ok
		fork 0 0 => 2
		fork 0 0 => 3
		fork 0 0 => 4
		exit 3 1 => ok
		wait 0 => 4 1
		exit 2 1 => ok
	`)
	for _, act := range deeds {
		for _, n := range append(strange, api.Procs) {
			wantRefused(t, k, fmt.Sprintf(act, n), api.ErrBound)
		}
		for _, n := range []int{2, 3, api.Procs - 1} {
			wantRefused(t, k, fmt.Sprintf(act, n), api.ErrNone)
		}
	}
}

// M1: what is wrong with the process that acts is told ahead of all else.
func TestWhoActsFirst(t *testing.T) {
	k := kernel.New()
	for _, act := range []string{
		"exit %d 256", "see %d 9", "signal %d 9 9", "hold %d 9 1", "how %d 9 9", "map %d -1 0 1", "unmap %d -1 0",
		"protect %d -1 0 1", "load %d -1", "store %d -1 0", "join %d 99", "open %d 0 0 a", "close %d 99", "dup %d 99",
		"read %d 99 -1", "write %d 99 -", "seek %d 99 -1", "what %d 99", "mkdir %d a", "remove %d a", "move %d a a",
		"link %d a a", "names %d a", "node %d a", "bind %d a a", "unbind %d a", "pivot %d 99",
	} {
		wantRefused(t, k, fmt.Sprintf(act, -1), api.ErrBound)
		wantRefused(t, k, fmt.Sprintf(act, 1), api.ErrNone)
	}
}

// M1: all that is live is told rising; all spaces are.
func TestProcsAndSpaces(t *testing.T) {
	play(t, `
		fork 0 0 => 2
		fork 0 1 => 3
		fork 2 1 => 2
		procs => 0 1 2 3
		spaces => 0 1 2
		exit 1 0 => ok
		procs => 0 2 3
		wait 0 => 2 0
		fork 3 0 => 2
		procs => 0 1 2 3
	`)
}

// M1: each process is a task of its group, of the weight 100.
func TestTaskOfItsGroup(t *testing.T) {
	play(t, `
		add 0 100 => 1
		add 0 300 => 2
		fork 0 0 => 2
		join 1 1 => ok
		run 6 => 1 0 1 0 1 0
		join 1 2 => ok
		run 9 => 1 1 1 1 0 1 1 1 0
	`)
}

// Z2: lists that come out are the caller's.
func TestFresh(t *testing.T) {
	k := play(t, `
		fork 0 0 => 2
		map 0 0 2 1 => ok
		mkdir 0 /a => ok
	`)
	wantSame(t, k, "writing into lists that were told", func() {
		numbers, _ := k.List(0)
		for _, all := range [][]int{k.Procs(), k.Spaces(), numbers} {
			for i := range all {
				all[i] = 99
			}
		}
		spans, _ := k.Regions(0)
		names, _ := k.Names(0, "/")
		spans[0], names[0] = api.Region{}, "z"
	})
}

// The session of the document, but for its last line, that no kernel is asked.
func TestSession(t *testing.T) {
	play(t, `
		add 0 300 => 1
		limit 1 4 6 => ok
		fork 0 1 => 2
		join 1 1 => ok
		plant => 1
		pivot 1 1 => ok
		mkdir 1 /a => ok
		open 1 1 1 /a/b => 0
		write 1 0 68656c6c6f => 5
		fork 1 0 => 2
		seek 2 0 1 => ok
		read 1 0 3 => 656c6c
		names 1 / => a
		names 0 / => -
		map 1 0 4 1 => ok
		store 1 5 77 => ok
		fork 1 0 => 3
		store 3 5 78 => ok
		load 1 5 => 77
		left => 62
		group 1 => 0 4 6 3 2
		map 2 0 8 1 => ok
		store 2 0 1 => ok
		store 2 8 1 => ok
		store 2 16 1 => ok
		store 2 24 1 => ok
		group 1 => 0 4 6 3 6
		store 3 8 1 => ok
		procs => 0 1 3
		wait 1 => 2 137
		list 1 => 1 3
		pipe 1 => 1 2
		fork 1 1 => 2
		self 2 => 1
		parent 2 => 0
		list 2 => 1
		write 2 2 616263 => 3
		read 1 1 9 => 616263
		close 1 1 => ok
		close 2 1 => ok
		write 2 2 61 => error 12
		self 2 => 1
		wait 1 => error 8
		write 3 2 61 => error 2
		self 3 => 3
		wait 1 => error 8
		run 6 => 1 0 2 3 1 0
		quota 1 1 3 => ok
		run 6 => 2 0 0 3 0 0
		bind 1 /a / => ok
		names 1 /a/a => a
		node 1 /a/.. => 2 1 3 1
		remove 1 /a => error 5
		how 1 5 2 => ok
		signal 0 2 5 => ok
		take 1 => 5
		signal 0 2 4 => ok
		wait 0 => 2 132
		spaces => 0
		counts => 4 0 0
		left => 64
	`)
}
