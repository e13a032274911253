package kernel_test

import (
	"fmt"
	"testing"

	"wardroom/api"
	"wardroom/kernel"
)

// M2: a child is the lowest number that is no process; it is told by its number in its parent's space.
func TestForkNumbers(t *testing.T) {
	play(t, `
		fork 0 0 => 2
		fork 0 1 => 3
		fork 2 0 => 2
		fork 2 0 => 3
		list 0 => 1 2 3 4 5
		list 2 => 1 2 3
		self 4 => 3
		see 0 5 => 4
		exit 1 0 => ok
		fork 2 0 => 4
		self 5 => 4
		wait 0 => 2 0
		fork 2 0 => 5
		self 1 => 5
		see 0 2 => 1
		procs => 0 1 2 3 4 5
	`)
}

// M2: a child is in its parent's space, or in a new one below that.
func TestForkSpaces(t *testing.T) {
	play(t, `
		fork 0 1 => 2
		spaces => 0 1
		self 1 => 1
		parent 1 => 0
		list 1 => 1
		fork 1 0 => 2
		spaces => 0 1
		parent 2 => 1
		fork 2 1 => 3
		spaces => 0 1 2
		self 3 => 1
		parent 3 => 0
		list 3 => 1
		see 1 3 => 3
		see 3 1 => 3
		see 3 2 => error 2
		fork 0 0 => 5
		parent 4 => 1
		list 1 => 1 2 3
		list 0 => 1 2 3 4 5
	`)
}

// M2: there are Procs processes, gone ones among them, and no more; that is told ahead of a limit.
func TestForkFull(t *testing.T) {
	k := kernel.New()
	for n := 1; n < api.Procs; n++ {
		goOn(t, k, fmt.Sprintf("fork 0 0 => %d", n+1))
	}
	wantRefused(t, k, "fork 0 0", api.ErrFull)
	wantRefused(t, k, "fork 0 1", api.ErrFull)
	wantRefused(t, k, "fork 19 0", api.ErrFull)
	goOn(t, k, "exit 7 0 => ok\nlimit 0 3 -1 => ok")
	wantRefused(t, k, "fork 0 0", api.ErrFull)
	goOn(t, k, "wait 0 => 8 0")
	wantRefused(t, k, "fork 0 0", api.ErrLimit)
	goOn(t, k, "limit 0 -1 -1 => ok\nfork 3 0 => 8\nparent 7 => 4")
}

// M2, W2: a child is charged as a process, and with as many pages as its parent has in frames.
func TestForkCharges(t *testing.T) {
	k := play(t, `
		add 0 100 => 1
		add 1 100 => 2
		fork 0 0 => 2
		join 1 2 => ok
		map 1 0 5 1 => ok
		store 1 0 1 => ok
		load 1 17 => 0
		fork 1 0 => 3
		of 2 => 2
		group 2 => 1 -1 -1 2 4
		group 1 => 0 -1 -1 2 4
		group 0 => -1 -1 -1 3 4
		resident 2 => 2
		left => 62
		limit 1 2 -1 => ok
	`)
	wantRefused(t, k, "fork 1 0", api.ErrLimit)
	goOn(t, k, "limit 1 3 5 => ok")
	wantRefused(t, k, "fork 1 0", api.ErrLimit)
	wantRefused(t, k, "fork 1 1", api.ErrLimit)
	goOn(t, k, `
		limit 1 3 6 => ok
		fork 1 0 => 4
		group 1 => 0 3 6 3 6
	`)
	wantRefused(t, k, "fork 1 0", api.ErrLimit)
	goOn(t, k, "fork 0 0 => 5\ngroup 0 => -1 -1 -1 5 6")
}

// M2: spaces are Deep at most, one below the other, and Spaces in all; nothing is charged for a child that has none.
func TestForkWithoutSpace(t *testing.T) {
	k := play(t, `
		fork 0 1 => 2
		fork 1 1 => 2
		fork 2 1 => 2
		map 3 0 1 1 => ok
		store 3 0 1 => ok
	`)
	wantRefused(t, k, "fork 3 1", api.ErrDeep)
	goOn(t, k, `
		fork 3 0 => 2
		fork 0 1 => 6
		fork 2 1 => 4
		spaces => 0 1 2 3 4 5
	`)
	wantRefused(t, k, "fork 0 1", api.ErrFull)
	wantRefused(t, k, "fork 3 1", api.ErrDeep)
	goOn(t, k, `
		limit 0 7 -1 => ok
	`)
	wantRefused(t, k, "fork 0 1", api.ErrLimit)
	wantRefused(t, k, "fork 3 1", api.ErrLimit)
	goOn(t, k, `
		limit 0 -1 -1 => ok
		exit 5 1 => ok
		wait 0 => 6 1
		fork 0 1 => 6
		spaces => 0 1 2 3 4 5
	`)
}

// M2: a space of one's own has a copy of the table of mounts, which goes on apart.
func TestForkTable(t *testing.T) {
	k := play(t, `
		mkdir 0 /a => ok
		mkdir 0 /a/x => ok
		mkdir 0 /b => ok
		bind 0 /b /a => ok
		fork 0 1 => 2
		fork 0 0 => 3
		names 1 /b => x
		names 2 /b => x
		node 0 / => 2 1 2 2
		unbind 0 /b => ok
		names 0 /b => -
		names 2 /b => -
		names 1 /b => x
		unbind 1 /b => ok
		bind 1 /a/x / => ok
		names 1 /a/x => a b
		names 0 /a/x => -
		bind 2 /a /b => ok
		names 0 /a => -
		names 1 /a => x
	`)
	goOn(t, k, "pivot 1 0 => ok\nnames 1 /a/x => -\nnames 0 /a => -")
}

// M2: a child is awake, whether its parent is or not, and never ran.
func TestForkAwake(t *testing.T) {
	play(t, `
		run 2 => 0 0
		sleep 0 => ok
		run 1 => -1
		fork 0 0 => 2
		ran 1 => 0
		run 2 => 1 1
		ran 1 => 2
		ran 0 => 2
	`)
}

// M2, W5: a child has its parent's memory as it was, and from then on each writes its own.
func TestForkMemory(t *testing.T) {
	play(t, `
		map 0 0 2 1 => ok
		map 0 4 1 0 => ok
		store 0 3 7 => ok
		fork 0 0 => 2
		regions 1 => 0 2 1 4 1 0
		resident 1 => 1
		left => 63
		load 1 3 => 7
		store 0 3 8 => ok
		left => 62
		load 1 3 => 7
		store 1 4 9 => ok
		load 0 4 => 0
		load 0 3 => 8
		left => 62
		store 1 8 5 => ok
		load 0 8 => 0
		unmap 0 0 2 => ok
		load 1 8 => 5
		load 1 3 => 7
		store 1 32 1 => error 10
	`)
}

// M2: a child's numbers are for the same open files.
func TestForkOpenFiles(t *testing.T) {
	play(t, `
		open 0 1 1 /f => 0
		open 0 0 0 /f => 1
		dup 0 0 => 2
		close 0 1 => ok
		write 0 0 616263 => 3
		fork 0 0 => 2
		what 1 0 => 1 1 3 4
		what 1 1 => error 2
		what 1 2 => 1 1 3 4
		what 0 0 => 1 1 3 4
		seek 1 2 1 => ok
		read 0 0 1 => 62
		close 0 0 => ok
		close 0 2 => ok
		what 1 0 => 1 1 2 2
		open 1 0 0 /f => 1
		counts => 2 0 2
		close 1 0 => ok
		close 1 2 => ok
		counts => 2 0 1
	`)
}

// M2: a child does with signals as its parent does; none waits.
func TestForkBox(t *testing.T) {
	play(t, `
		how 0 5 2 => ok
		how 0 6 1 => ok
		hold 0 7 1 => ok
		fork 0 0 => 2
		signal 0 2 5 => ok
		fork 1 0 => 3
		take 2 => error 2
		take 1 => 5
		signal 0 3 6 => ok
		signal 0 3 7 => ok
		signal 0 3 5 => ok
		take 2 => 5
		fork 2 0 => 4
		hold 3 7 0 => ok
		self 3 => 4
		hold 2 7 0 => ok
		self 2 => error 2
	`)
}

// M3: an exit that is refused.
func TestExitRefused(t *testing.T) {
	k := play(t, "fork 0 0 => 2")
	for _, code := range append(strange, 256, 257) {
		wantRefused(t, k, fmt.Sprintf("exit 1 %d", code), api.ErrBound)
		wantRefused(t, k, fmt.Sprintf("exit 0 %d", code), api.ErrBound)
	}
	wantRefused(t, k, "exit 0 0", api.ErrState)
	wantRefused(t, k, "exit 0 255", api.ErrState)
	goOn(t, k, `
		fork 0 0 => 3
		exit 1 255 => ok
		exit 2 0 => ok
		wait 0 => 2 255
		wait 0 => 3 0
	`)
}

// M3, W7: who ends has nothing mapped or open any more, and runs no more; it is charged as a process still.
func TestExitStrips(t *testing.T) {
	k := play(t, `
		add 0 300 => 1
		fork 0 0 => 2
		join 1 1 => ok
		map 1 0 4 1 => ok
		store 1 0 1 => ok
		store 1 9 1 => ok
		open 1 1 1 /f => 0
		pipe 1 => 1 2
		dup 1 2 => 3
		fork 1 0 => 3
		store 2 0 5 => ok
		group 1 => 0 -1 -1 2 4
		counts => 2 1 3
		left => 61
		exit 1 9 => ok
		group 1 => 0 -1 -1 2 2
		left => 62
		counts => 2 1 3
		what 2 0 => 1 1 0 1
		what 2 2 => 3 0 0 2
		procs => 0 2
		list 0 => 1 2 3
		see 0 2 => error 8
		load 2 9 => 1
		load 2 0 => 5
		exit 2 9 => ok
		group 1 => 0 -1 -1 2 0
		left => 64
		counts => 2 0 0
		node 0 /f => 1 1 0 0
		run 3 => 0 0 0
	`)
	wantRefused(t, k, "drop 1", api.ErrBusy)
	goOn(t, k, "wait 0 => 2 9\nwait 0 => 3 9\ngroup 1 => 0 -1 -1 0 0\ndrop 1 => ok")
}

// M3: a file that has no name any more is no more, when who had it open ends.
func TestExitLetsFilesGo(t *testing.T) {
	play(t, `
		fork 0 0 => 2
		open 1 1 1 /f => 0
		remove 0 /f => ok
		counts => 2 0 1
		exit 1 0 => ok
		counts => 1 0 0
	`)
}

// M3, W6, W7: when the head of a space ends, nobody in it is any more, and no space below it.
func TestExitOfHead(t *testing.T) {
	// In the space of 1 are 2, which is gone, 3, and the heads 4 and 5, one below the other; 6 is in that of 5. 7 is beside it.
	k := play(t, `
		add 0 100 => 1
		mkdir 0 /a => ok
		fork 0 1 => 2
		fork 1 0 => 2
		fork 1 0 => 3
		fork 1 1 => 4
		fork 4 1 => 2
		fork 5 0 => 2
		fork 0 0 => 8
		bind 4 /a / => ok
		node 0 / => 2 1 5 1
		join 3 1 => ok
		join 6 1 => ok
		exit 2 5 => ok
		map 6 0 3 1 => ok
		store 6 0 1 => ok
		map 3 0 1 1 => ok
		store 3 0 1 => ok
		pipe 3 => 0 1
		open 6 1 1 /f => 0
		pipe 0 => 0 1
		group 1 => 0 -1 -1 2 2
		group 0 => -1 -1 -1 8 2
		spaces => 0 1 2 3
		counts => 3 2 5
		exit 1 7 => ok
		procs => 0 7
		list 0 => 1 2 8
		spaces => 0 1
		group 1 => 0 -1 -1 0 0
		group 0 => -1 -1 -1 3 0
		left => 64
		counts => 3 1 2
		node 0 / => 2 1 2 2
		node 0 /a => 2 1 0 0
		run 4 => 0 7 0 7
		drop 1 => ok
	`)
	for _, n := range []int{2, 3, 4, 5, 6} {
		wantRefused(t, k, fmt.Sprintf("self %d", n), api.ErrNone)
		wantRefused(t, k, fmt.Sprintf("see 0 %d", n+1), api.ErrNone)
	}
	wantRefused(t, k, "see 0 2", api.ErrState)
	goOn(t, k, `
		wait 0 => 2 7
		wait 0 => error 8
		spaces => 0
		node 0 / => 2 1 1 2
		group 0 => -1 -1 -1 2 0
		fork 0 1 => 2
		list 1 => 1
		spaces => 0 1
	`)
}

// M3: gone heads below, and who waits to be told of, are no more with the head above them.
func TestExitOfHeadWithGoneHeads(t *testing.T) {
	play(t, `
		fork 0 1 => 2
		fork 1 1 => 2
		fork 2 1 => 2
		exit 3 1 => ok
		spaces => 0 1 2 3
		exit 2 2 => ok
		spaces => 0 1 2
		list 0 => 1 2 3
		exit 1 3 => ok
		spaces => 0 1
		list 0 => 1 2
		wait 0 => 2 3
		spaces => 0
		group 0 => -1 -1 -1 1 0
		node 0 / => 2 1 1 0
	`)
}

// M3: whose parent ended has the head of that one's space as its parent, live or gone.
func TestExitLeavesChildren(t *testing.T) {
	play(t, `
		fork 0 1 => 2
		fork 1 0 => 2
		fork 2 0 => 3
		fork 2 1 => 4
		fork 2 0 => 5
		fork 3 0 => 6
		exit 5 3 => ok
		wait 1 => error 8
		parent 3 => 2
		exit 2 1 => ok
		parent 3 => 1
		parent 4 => 0
		parent 6 => 3
		wait 1 => 2 1
		wait 1 => 5 3
		wait 1 => error 8
		exit 4 2 => ok
		wait 0 => error 8
		wait 1 => 4 2
		exit 3 4 => ok
		parent 6 => 1
		exit 6 6 => ok
		wait 1 => 3 4
		wait 1 => 6 6
		wait 1 => error 2
		spaces => 0 1
	`)
}

// M3: children of one in the root space have the process 0 as their parent, though it is in none of theirs.
func TestExitLeavesChildrenToTheFirst(t *testing.T) {
	play(t, `
		fork 0 0 => 2
		fork 1 1 => 3
		fork 2 0 => 2
		wait 1 => error 8
		exit 1 1 => ok
		parent 2 => 0
		parent 3 => 1
		exit 2 8 => ok
		procs => 0
		wait 0 => 2 1
		wait 0 => 3 8
		wait 0 => error 2
	`)
}

// M3: the parent of who ends is sent Kid, and nobody else.
func TestKid(t *testing.T) {
	play(t, `
		how 0 3 2 => ok
		fork 0 0 => 2
		fork 1 0 => 3
		fork 2 0 => 4
		exit 2 1 => ok
		take 1 => 3
		take 0 => error 2
		take 3 => error 2
		take 1 => error 2
		exit 3 1 => ok
		take 1 => error 2
		take 0 => 3
		exit 1 1 => ok
		take 0 => 3
		take 0 => error 2
	`)
}

// M3: a parent that isn't told of Kid by its own choice goes on, and so does a head.
func TestKidIgnored(t *testing.T) {
	play(t, `
		fork 0 1 => 2
		fork 1 0 => 2
		fork 2 0 => 3
		exit 3 1 => ok
		how 2 3 2 => ok
		take 2 => error 2
		fork 2 0 => 4
		hold 2 3 1 => ok
		exit 4 1 => ok
		take 2 => error 2
		hold 2 3 0 => ok
		take 2 => 3
		how 1 3 2 => ok
		exit 2 1 => ok
		take 1 => 3
		how 0 3 2 => ok
		exit 1 1 => ok
		take 0 => 3
	`)
}

// M4: who has no children is told so ahead of who has none that are gone.
func TestWaitRefused(t *testing.T) {
	k := play(t, "fork 0 0 => 2\nfork 1 0 => 3")
	wantRefused(t, k, "wait 2", api.ErrNone)
	wantRefused(t, k, "wait 1", api.ErrState)
	goOn(t, k, "exit 2 4 => ok")
	wantRefused(t, k, "wait 0", api.ErrState)
	goOn(t, k, "wait 1 => 3 4")
	wantRefused(t, k, "wait 1", api.ErrNone)
}

// M4: of several the one with the least number in the space of who waits, whatever they are as processes.
func TestWaitLeastNumber(t *testing.T) {
	play(t, `
		fork 0 1 => 2
		fork 1 0 => 2
		fork 1 0 => 3
		exit 2 1 => ok
		wait 1 => 2 1
		fork 0 0 => 3
		fork 1 0 => 2
		see 1 2 => 4
		see 1 3 => 3
		exit 3 30 => ok
		exit 4 40 => ok
		wait 1 => 2 40
		wait 1 => 3 30
		wait 1 => error 2
	`)
}

// M4: who was waited for is no more, and its number is free.
func TestWaitEnds(t *testing.T) {
	play(t, `
		add 0 100 => 1
		fork 0 0 => 2
		join 1 1 => ok
		fork 1 0 => 3
		exit 1 1 => ok
		group 1 => 0 -1 -1 2 0
		wait 0 => 2 1
		group 1 => 0 -1 -1 1 0
		group 0 => -1 -1 -1 2 0
		list 0 => 1 3
		see 0 2 => error 2
		fork 2 0 => 2
		self 1 => 2
		of 1 => 1
		parent 1 => 3
		ran 1 => 0
	`)
}

// M4: the space of a head is there till somebody waited for it; then its table holds nothing.
func TestWaitForHead(t *testing.T) {
	k := play(t, `
		mkdir 0 /a => ok
		fork 0 1 => 2
		bind 1 /a / => ok
		exit 1 3 => ok
		spaces => 0 1
		node 0 / => 2 1 3 1
	`)
	wantRefused(t, k, "remove 0 /a", api.ErrBusy)
	goOn(t, k, `
		wait 0 => 2 3
		spaces => 0
		node 0 / => 2 1 1 1
		remove 0 /a => ok
		counts => 1 0 0
	`)
}

// M4: See.
func TestSee(t *testing.T) {
	k := play(t, `
		fork 0 1 => 2
		fork 1 0 => 2
		fork 0 0 => 4
		see 0 1 => 0
		see 0 4 => 3
		see 1 1 => 1
		see 1 2 => 2
		see 2 1 => 1
		exit 3 0 => ok
	`)
	wantRefused(t, k, "see 0 4", api.ErrState)
	for _, pid := range append(strange, 0, 5, api.Procs, api.Procs+1) {
		wantRefused(t, k, fmt.Sprintf("see 0 %d", pid), api.ErrNone)
	}
	wantRefused(t, k, "see 1 3", api.ErrNone)
	goOn(t, k, "wait 0 => 4 0")
	wantRefused(t, k, "see 0 4", api.ErrNone)
}

// M4: a parent that is above its child's space has no number there; numbers of the gone are told, too.
func TestSelfParentList(t *testing.T) {
	play(t, `
		fork 0 0 => 2
		fork 1 1 => 3
		fork 2 0 => 2
		fork 3 0 => 3
		self 1 => 2
		parent 1 => 1
		self 2 => 1
		parent 2 => 0
		self 4 => 3
		parent 4 => 2
		exit 3 0 => ok
		list 2 => 1 2 3
		list 4 => 1 2 3
		list 1 => 1 2 3 4 5
		parent 4 => 1
	`)
}
