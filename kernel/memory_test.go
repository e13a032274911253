package kernel_test

import (
	"fmt"
	"testing"

	"wardroom/api"
	"wardroom/kernel"
)

// M6: what is mapped, and how, is the memory's.
func TestMap(t *testing.T) {
	k := play(t, `
		map 0 2 3 1 => ok
		map 0 8 8 0 => ok
		regions 0 => 2 3 1 8 8 0
		protect 0 3 1 0 => ok
		regions 0 => 2 1 1 3 1 0 4 1 1 8 8 0
		resident 0 => 0
		unmap 0 9 1 => ok
		regions 0 => 2 1 1 3 1 0 4 1 1 8 1 0 10 6 0
		unmap 0 0 16 => ok
		regions 0 => -
		map 0 2 3 0 => ok
		group 0 => -1 -1 -1 1 0
	`)
	wantRefused(t, k, "map 0 4 1 1", api.ErrExist)
	wantRefused(t, k, "map 0 0 16 1", api.ErrExist)
	wantRefused(t, k, "protect 0 4 2 1", api.ErrFault)
	for _, act := range []string{"map 0 %d %d 1", "unmap 0 %d %d", "protect 0 %d %d 1"} {
		for _, n := range strange {
			wantRefused(t, k, fmt.Sprintf(act, n, 1), api.ErrBound)
			wantRefused(t, k, fmt.Sprintf(act, 1, n), api.ErrBound)
		}
		wantRefused(t, k, fmt.Sprintf(act, 3, 0), api.ErrBound)
		wantRefused(t, k, fmt.Sprintf(act, 0, 17), api.ErrBound)
		wantRefused(t, k, fmt.Sprintf(act, 15, 2), api.ErrBound)
	}
}

// M6: a page that is put into a frame is charged, once; what is unmapped is charged no more.
func TestPagesAreCharged(t *testing.T) {
	play(t, `
		add 0 100 => 1
		add 1 100 => 2
		fork 0 0 => 2
		join 1 2 => ok
		map 1 0 6 1 => ok
		load 1 7 => 0
		store 1 7 5 => ok
		load 1 7 => 5
		store 1 8 6 => ok
		store 1 40 6 => ok
		resident 1 => 3
		group 2 => 1 -1 -1 1 3
		group 0 => -1 -1 -1 2 3
		left => 61
		unmap 1 1 4 => ok
		group 2 => 1 -1 -1 1 2
		group 1 => 0 -1 -1 1 2
		left => 62
		unmap 1 1 4 => ok
		unmap 1 0 16 => ok
		group 2 => 1 -1 -1 1 0
		group 0 => -1 -1 -1 2 0
		left => 64
		map 1 0 1 1 => ok
		load 1 7 => 0
		group 2 => 1 -1 -1 1 1
	`)
}

// M6, W2: a page that is parted from another one's is charged already.
func TestPartedPagesAreCharged(t *testing.T) {
	play(t, `
		map 0 0 2 1 => ok
		store 0 0 1 => ok
		fork 0 0 => 2
		group 0 => -1 -1 -1 2 2
		left => 63
		limit 0 -1 2 => ok
		store 1 0 2 => ok
		left => 62
		group 0 => -1 -1 2 2 2
		unmap 0 0 1 => ok
		group 0 => -1 -1 2 2 1
		left => 63
		load 1 0 => 2
	`)
}

// M6: what may not be read, or written, is told ahead of all that a group lacks.
func TestFault(t *testing.T) {
	k := play(t, `
		fork 0 0 => 2
		map 1 0 2 1 => ok
		map 1 3 1 0 => ok
		store 1 0 1 => ok
		limit 0 -1 1 => ok
	`)
	for _, addr := range append(strange, 16, 23, 32, api.Pages*api.Page-1, api.Pages*api.Page) {
		wantRefused(t, k, fmt.Sprintf("load 1 %d", addr), api.ErrFault)
		wantRefused(t, k, fmt.Sprintf("store 1 %d 1", addr), api.ErrFault)
	}
	wantRefused(t, k, "store 1 24 1", api.ErrFault)
	goOn(t, k, "limit 0 -1 -1 => ok\nload 1 31 => 0\nprotect 1 0 1 0 => ok\nload 1 0 => 1")
	wantRefused(t, k, "store 1 0 1", api.ErrFault)
	wantRefused(t, k, "store 1 24 1", api.ErrFault)
}

// full: a kernel whose frames are all taken: by the processes 0 to 3, with all pages in frames, each of their own.
func full(t *testing.T) *kernel.Kernel {
	t.Helper()
	k := kernel.New()
	for n := range 4 {
		if n > 0 {
			goOn(t, k, fmt.Sprintf("fork 0 0 => %d", n+1))
		}
	}
	for n := range 4 {
		goOn(t, k, fmt.Sprintf("map %d 0 16 1 => ok", n))
		for page := range api.Pages {
			goOn(t, k, fmt.Sprintf("store %d %d %d => ok", n, page*api.Page, n))
		}
	}
	goOn(t, k, "left => 0\ngroup 0 => -1 -1 -1 4 64")
	return k
}

// M6: without a frame a page is not put into one, and not charged.
func TestNoFrame(t *testing.T) {
	k := full(t)
	goOn(t, k, "add 0 100 => 1\nfork 0 0 => 5\nunmap 4 1 1 => ok\nmap 4 1 1 1 => ok\njoin 4 1 => ok\ngroup 1 => 0 -1 -1 1 15")
	wantRefused(t, k, "load 4 8", api.ErrFull)
	wantRefused(t, k, "store 4 8 1", api.ErrFull)
	wantRefused(t, k, "store 4 0 1", api.ErrFull)
	wantRefused(t, k, "store 0 0 1", api.ErrFull)
	goOn(t, k, `
		load 4 0 => 0
		store 1 0 7 => ok
		exit 3 0 => ok
		left => 16
		store 4 8 1 => ok
		store 4 0 2 => ok
		load 0 0 => 0
		left => 14
		group 1 => 0 -1 -1 1 16
	`)
}

// M6: who ends since a group lacks room is told of as ended, though then there is no frame.
func TestNoFrameBehindAnEnd(t *testing.T) {
	// The pages of 5 are those of 4, so that no frame is free when it ends.
	k := full(t)
	goOn(t, k, `
		add 0 100 => 1
		fork 0 0 => 5
		unmap 4 1 1 => ok
		map 4 1 1 1 => ok
		join 4 1 => ok
		fork 4 0 => 6
		unmap 4 2 1 => ok
		group 1 => 0 -1 -1 2 29
		limit 1 -1 29 => ok
		load 4 8 => error 4
		wait 4 => 6 137
		resident 4 => 14
		group 1 => 0 -1 29 1 14
		left => 0
	`)
}

// M6: who has most pages in frames ends, of several the least number.
func TestGreatestEnds(t *testing.T) {
	play(t, `
		add 0 100 => 1
		limit 1 -1 6 => ok
		fork 0 0 => 2
		fork 0 0 => 3
		fork 0 0 => 4
		fork 0 0 => 5
		join 1 1 => ok
		join 2 1 => ok
		join 3 1 => ok
		join 4 1 => ok
		map 1 0 4 1 => ok
		map 2 0 4 1 => ok
		map 3 0 4 1 => ok
		map 4 0 4 1 => ok
		load 1 0 => 0
		load 2 0 => 0
		load 2 8 => 0
		load 3 0 => 0
		load 3 8 => 0
		load 4 0 => 0
		group 1 => 0 -1 6 4 6
		load 4 8 => 0
		procs => 0 1 3 4
		wait 0 => 3 137
		group 1 => 0 -1 6 3 5
		store 1 8 1 => ok
		group 1 => 0 -1 6 3 6
		store 1 16 1 => error 6
		procs => 0 3 4
		wait 0 => 2 137
		group 1 => 0 -1 6 2 4
		store 3 0 9 => ok
		group 1 => 0 -1 6 2 4
		load 3 0 => 9
	`)
}

// M6: a process is left alone that has no pages in frames, is gone, isn't in the group that lacks room, or is the process 0.
func TestWhoIsLeftAlone(t *testing.T) {
	k := play(t, `
		add 0 100 => 1
		add 0 100 => 2
		fork 0 0 => 2
		fork 0 0 => 3
		fork 0 0 => 4
		fork 0 0 => 5
		map 0 0 4 1 => ok
		load 0 0 => 0
		load 0 8 => 0
		load 0 16 => 0
		join 0 1 => ok
		join 1 1 => ok
		join 2 2 => ok
		join 3 1 => ok
		join 4 1 => ok
		map 2 0 4 1 => ok
		load 2 0 => 0
		load 2 8 => 0
		map 3 0 2 1 => ok
		map 4 0 2 1 => ok
		load 4 0 => 0
		exit 4 9 => ok
		group 1 => 0 -1 -1 4 3
		limit 1 -1 3 => ok
	`)
	wantRefused(t, k, "load 3 0", api.ErrLimit)
	wantRefused(t, k, "store 3 0 1", api.ErrLimit)
	wantRefused(t, k, "load 0 24", api.ErrLimit)
	goOn(t, k, "limit 1 -1 0 => ok")
	wantRefused(t, k, "load 3 0", api.ErrLimit)
	goOn(t, k, "load 2 16 => 0\nlimit 1 -1 4 => ok\nload 3 0 => 0\nload 3 8 => error 6\nwait 0 => 4 137\nprocs => 0 1 2")
}

// M6: the process 0 is never the one that ends: others do for it, and it has its page.
func TestTheFirstNeverEnds(t *testing.T) {
	play(t, `
		map 0 0 8 1 => ok
		load 0 0 => 0
		load 0 8 => 0
		fork 0 0 => 2
		limit 0 -1 4 => ok
		unmap 1 0 1 => ok
		load 0 16 => 0
		procs => 0 1
		load 0 24 => 0
		procs => 0
		group 0 => -1 -1 4 2 4
		load 0 32 => error 6
		procs => 0
		wait 0 => 2 137
	`)
}

// M6: it is the group that lacks room of which somebody ends, or of those below it.
func TestGroupThatLacks(t *testing.T) {
	// 1 is in the group 1, 2 in 2 below it, 3 in 3 below the root; 3 has most.
	play(t, `
		add 0 100 => 1
		add 1 100 => 2
		add 0 100 => 3
		fork 0 0 => 2
		fork 0 0 => 3
		fork 0 0 => 4
		join 1 1 => ok
		join 2 2 => ok
		join 3 3 => ok
		map 1 0 8 1 => ok
		map 2 0 8 1 => ok
		map 3 0 8 1 => ok
		load 1 0 => 0
		load 1 8 => 0
		load 2 0 => 0
		load 3 0 => 0
		load 3 8 => 0
		load 3 16 => 0
		limit 2 -1 1 => ok
		limit 1 -1 4 => ok
		limit 0 -1 7 => ok
		load 1 16 => 0
		group 1 => 0 -1 4 2 4
		group 0 => -1 -1 7 4 7
		load 2 8 => error 6
		procs => 0 1 3
		wait 0 => 3 137
		group 1 => 0 -1 4 1 3
		fork 0 0 => 3
		join 2 2 => ok
		map 2 0 8 1 => ok
		load 2 0 => 0
		limit 2 -1 -1 => ok
		load 2 8 => 0
		procs => 0 2 3
		wait 0 => 2 137
		group 1 => 0 -1 4 1 2
		load 3 24 => 0
		load 3 32 => 0
		group 0 => -1 -1 7 3 7
		load 2 16 => 0
		procs => 0 2
		wait 0 => 4 137
	`)
}

// M6: one after the other ends, as long as a group lacks room.
func TestManyEnd(t *testing.T) {
	play(t, `
		add 0 100 => 1
		map 0 0 8 1 => ok
		load 0 0 => 0
		load 0 8 => 0
		load 0 16 => 0
		fork 0 0 => 2
		fork 0 0 => 3
		fork 0 0 => 4
		fork 0 0 => 5
		unmap 4 0 3 => ok
		unmap 2 1 1 => ok
		map 4 0 1 1 => ok
		join 1 1 => ok
		join 2 1 => ok
		join 3 1 => ok
		join 4 1 => ok
		group 1 => 0 -1 -1 4 8
		limit 1 -1 3 => ok
		load 4 0 => 0
		procs => 0 2 4
		group 1 => 0 -1 3 4 3
		wait 0 => 2 137
		wait 0 => 4 137
		limit 1 -1 0 => ok
		load 4 24 => error 6
		procs => 0
		wait 0 => 3 137
		wait 0 => 5 137
		group 1 => 0 -1 0 0 0
	`)
}

// M6: a group may lack room when others made some in another one: first the lower one is done with.
func TestTwoGroupsLack(t *testing.T) {
	play(t, `
		add 0 100 => 1
		add 1 100 => 2
		fork 0 0 => 2
		fork 0 0 => 3
		fork 0 0 => 4
		join 1 1 => ok
		join 2 2 => ok
		join 3 2 => ok
		map 1 0 8 1 => ok
		map 2 0 8 1 => ok
		map 3 0 8 1 => ok
		load 1 0 => 0
		load 1 8 => 0
		load 1 16 => 0
		load 2 0 => 0
		limit 2 -1 1 => ok
		limit 1 -1 1 => ok
		load 3 0 => 0
		procs => 0 3
		group 1 => 0 -1 1 3 1
	`)
}

// M6: with a head all in its space are no more; who wanted the page may be among them.
func TestHeadEndsForRoom(t *testing.T) {
	k := play(t, `
		add 0 100 => 1
		how 0 3 2 => ok
		fork 0 1 => 2
		join 1 1 => ok
		map 1 0 8 1 => ok
		load 1 0 => 0
		load 1 8 => 0
		fork 1 0 => 2
		unmap 2 0 8 => ok
		map 2 0 8 1 => ok
		fork 0 0 => 4
		join 3 1 => ok
		group 1 => 0 -1 -1 3 2
		limit 1 -1 2 => ok
		load 2 0 => error 6
		procs => 0 3
		take 0 => 3
		list 0 => 1 2 4
		group 1 => 0 -1 2 2 0
		left => 64
		wait 0 => 2 137
		spaces => 0
	`)
	wantRefused(t, k, "load 2 0", api.ErrNone)
}
