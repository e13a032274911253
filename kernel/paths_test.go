package kernel_test

import (
	"fmt"
	"testing"

	"wardroom/api"
	"wardroom/kernel"
)

// M10: directories, and what they have.
func TestMakeDir(t *testing.T) {
	k := play(t, `
		mkdir 0 /b => ok
		mkdir 0 /b/c => ok
		mkdir 0 /b/../a => ok
		open 0 1 1 /f => 0
		names 0 / => a b f
		names 0 /b => c
		names 0 /b/c/.. => c
		names 0 /a => -
		node 0 / => 2 1 1 3
		node 0 /b => 2 1 0 1
		node 0 /f => 1 1 1 0
	`)
	wantRefused(t, k, "mkdir 0 /", api.ErrText)
	wantRefused(t, k, "mkdir 0 /b/..", api.ErrText)
	wantRefused(t, k, "mkdir 0 /b", api.ErrExist)
	wantRefused(t, k, "mkdir 0 /f", api.ErrExist)
	wantRefused(t, k, "mkdir 0 /f/x", api.ErrKind)
	wantRefused(t, k, "mkdir 0 /x/y", api.ErrNone)
	wantRefused(t, k, "names 0 /f", api.ErrKind)
	wantRefused(t, k, "names 0 /x", api.ErrNone)
	wantRefused(t, k, "node 0 /f/x", api.ErrKind)
	wantRefused(t, k, "node 0 /x", api.ErrNone)
	for n := 3; n < api.Kids; n++ {
		goOn(t, k, fmt.Sprintf("mkdir 0 /d%d => ok", n))
	}
	wantRefused(t, k, "mkdir 0 /e", api.ErrFull)
}

// M10: Remove.
func TestRemove(t *testing.T) {
	k := play(t, `
		mkdir 0 /a => ok
		mkdir 0 /a/b => ok
		open 0 1 1 /a/f => 0
	`)
	wantRefused(t, k, "remove 0 /", api.ErrText)
	wantRefused(t, k, "remove 0 /a/..", api.ErrText)
	wantRefused(t, k, "remove 0 /a", api.ErrBusy)
	wantRefused(t, k, "remove 0 /x", api.ErrNone)
	wantRefused(t, k, "remove 0 /x/y", api.ErrNone)
	wantRefused(t, k, "remove 0 /a/f/x", api.ErrKind)
	goOn(t, k, `
		remove 0 /a/b => ok
		counts => 3 0 1
		remove 0 /a/f => ok
		names 0 /a => -
		remove 0 /a => ok
		counts => 2 0 1
		names 0 / => -
	`)
}

// M10: Move.
func TestMove(t *testing.T) {
	k := play(t, `
		mkdir 0 /a => ok
		mkdir 0 /a/b => ok
		mkdir 0 /c => ok
		open 0 1 1 /f => 0
		move 0 /f /a/b/g => ok
		names 0 /a/b => g
		move 0 /a/b /c/b => ok
		names 0 /c/b => g
		node 0 /c/b/.. => 2 1 0 1
		names 0 /a => -
		move 0 /c/b/g /c/b/h => ok
		what 0 0 => 1 4 0 1
	`)
	wantRefused(t, k, "move 0 / /x", api.ErrText)
	wantRefused(t, k, "move 0 /x /", api.ErrText)
	wantRefused(t, k, "move 0 /x /a/..", api.ErrText)
	wantRefused(t, k, "move 0 /a /a/..", api.ErrText)
	wantRefused(t, k, "move 0 /x/y z", api.ErrNone)
	wantRefused(t, k, "move 0 x /y/z", api.ErrText)
	wantRefused(t, k, "move 0 /x /y/z", api.ErrNone)
	wantRefused(t, k, "move 0 /x /a/y", api.ErrNone)
	wantRefused(t, k, "move 0 /c/b/h/x /y/z", api.ErrNone)
	wantRefused(t, k, "move 0 /c/b/h/x /z", api.ErrKind)
	wantRefused(t, k, "move 0 /a /c/b/h/x", api.ErrKind)
	wantRefused(t, k, "move 0 /c /c/b/x", api.ErrBusy)
	wantRefused(t, k, "move 0 /a /c", api.ErrExist)
}

// M10: Link: the file is walked to ahead of where its name is to be.
func TestLink(t *testing.T) {
	k := play(t, `
		mkdir 0 /a => ok
		open 0 1 1 /f => 0
		link 0 /f /a/g => ok
		node 0 /a/g => 1 2 1 0
		remove 0 /f => ok
		node 0 /a/g => 1 1 1 0
		open 0 0 0 /a/g => 1
		what 0 1 => 1 2 0 1
	`)
	wantRefused(t, k, "link 0 /a /b", api.ErrKind)
	wantRefused(t, k, "link 0 / /b", api.ErrKind)
	wantRefused(t, k, "link 0 /x y", api.ErrNone)
	wantRefused(t, k, "link 0 x /y/z", api.ErrText)
	wantRefused(t, k, "link 0 /a/g /", api.ErrText)
	wantRefused(t, k, "link 0 /a/g /a/..", api.ErrText)
	wantRefused(t, k, "link 0 /a/g /x/y", api.ErrNone)
	wantRefused(t, k, "link 0 /a/g /a/g", api.ErrExist)
	wantRefused(t, k, "link 0 /a/g /a/g/x", api.ErrKind)
	wantRefused(t, k, "link 0 /x/y /x", api.ErrNone)
}

// M10: Bind goes out from the place itself, whatever is mounted there, to what is seen.
func TestBind(t *testing.T) {
	k := play(t, `
		mkdir 0 /a => ok
		mkdir 0 /a/x => ok
		mkdir 0 /b => ok
		mkdir 0 /b/y => ok
		mkdir 0 /c => ok
		open 0 1 1 /f => 0
		bind 0 /b /a => ok
		names 0 /b => x
		node 0 /b/.. => 2 1 1 4
		bind 0 /c /b => ok
		names 0 /c => x
		node 0 /c => 2 1 2 1
	`)
	wantRefused(t, k, "bind 0 /b /c", api.ErrExist)
	wantRefused(t, k, "bind 0 /a /c", api.ErrState)
	wantRefused(t, k, "bind 0 /a /a", api.ErrState)
	wantRefused(t, k, "bind 0 /f /a", api.ErrKind)
	wantRefused(t, k, "bind 0 /a /f", api.ErrKind)
	wantRefused(t, k, "bind 0 /x y", api.ErrNone)
	wantRefused(t, k, "bind 0 x /y", api.ErrText)
	wantRefused(t, k, "bind 0 /a /y", api.ErrNone)
	wantRefused(t, k, "bind 0 /a/.. /b", api.ErrText)
	wantRefused(t, k, "bind 0 /f/x /b", api.ErrKind)
	wantRefused(t, k, "remove 0 /a", api.ErrBusy)
	wantRefused(t, k, "remove 0 /b", api.ErrBusy)
	wantRefused(t, k, "unbind 0 /a", api.ErrNone)
	wantRefused(t, k, "unbind 0 /", api.ErrNone)
	wantRefused(t, k, "unbind 0 x", api.ErrText)
	wantRefused(t, k, "unbind 0 /a/..", api.ErrText)
	wantRefused(t, k, "unbind 0 /z", api.ErrNone)
	goOn(t, k, `
		unbind 0 /b => ok
		names 0 /b => y
		names 0 /c => x
		node 0 /b => 2 1 0 1
		unbind 0 /c => ok
		names 0 /c => -
		node 0 /a => 2 1 0 1
		bind 0 / /a => ok
		names 0 / => x
		names 0 /.. => x
		unbind 0 / => ok
		names 0 / => a b c f
	`)
}

// M10: mounts are Mounts at most, of each space.
func TestBindFull(t *testing.T) {
	k := kernel.New()
	for n := range api.Mounts + 1 {
		goOn(t, k, fmt.Sprintf("mkdir 0 /d%d => ok", n))
	}
	for n := range api.Mounts {
		goOn(t, k, fmt.Sprintf("bind 0 /d%d / => ok", n))
	}
	wantRefused(t, k, "bind 0 /d6 /", api.ErrFull)
	goOn(t, k, "fork 0 1 => 2")
	wantRefused(t, k, "bind 1 /d6 /", api.ErrFull)
	goOn(t, k, "unbind 1 /d0 => ok\nbind 1 /d6 / => ok")
	wantRefused(t, k, "bind 0 /d6 /", api.ErrFull)
}

// M10: who sees one tree sees nothing of another one.
func TestTreesApart(t *testing.T) {
	k := play(t, `
		plant => 1
		fork 0 1 => 2
		pivot 1 1 => ok
		mkdir 1 /a => ok
		open 1 1 1 /a/f => 0
		mkdir 0 /a => ok
		names 0 /a => -
		names 1 /a => f
		remove 0 /a => ok
		names 1 / => a
	`)
	wantRefused(t, k, "node 0 /a", api.ErrNone)
	wantRefused(t, k, "open 0 1 0 /a/f", api.ErrNone)
}

// M10: Plant.
func TestPlant(t *testing.T) {
	k := play(t, "plant => 1\nplant => 2\nplant => 3\ncounts => 4 0 0")
	wantRefused(t, k, "plant", api.ErrFull)
}

// M10: Pivot is the head's; all who are in its space, but nobody else, see the other tree.
func TestPivot(t *testing.T) {
	k := play(t, `
		mkdir 0 /a => ok
		mkdir 0 /b => ok
		fork 0 1 => 2
		fork 1 0 => 2
		fork 1 1 => 3
		bind 1 /a /b => ok
		node 0 / => 2 1 3 2
		node 0 /a => 2 1 1 0
		plant => 1
	`)
	wantRefused(t, k, "pivot 2 1", api.ErrState)
	wantRefused(t, k, "pivot 2 99", api.ErrState)
	wantRefused(t, k, "pivot 1 2", api.ErrNone)
	for _, to := range append(strange, api.Trees) {
		wantRefused(t, k, fmt.Sprintf("pivot 1 %d", to), api.ErrBound)
	}
	goOn(t, k, `
		pivot 1 1 => ok
		names 1 / => -
		names 2 / => -
		names 3 / => a b
		names 0 / => a b
		node 0 / => 2 1 2 2
		node 0 /a => 2 1 0 0
		node 1 / => 2 1 1 0
		mkdir 2 /c => ok
		names 1 / => c
		pivot 1 0 => ok
		names 2 / => a b
		pivot 0 1 => ok
		names 0 / => c
		pivot 3 1 => ok
		names 3 / => c
		node 0 / => 2 1 2 1
	`)
}

// M10: what is open stays so, whatever tree its space turns to.
func TestPivotLeavesOpenFiles(t *testing.T) {
	play(t, `
		fork 0 1 => 2
		open 1 1 1 /f => 0
		plant => 1
		pivot 1 1 => ok
		write 1 0 61 => 1
		node 0 /f => 1 1 1 1
		open 1 1 1 /f => 1
		what 1 1 => 1 3 0 1
	`)
}

// M10: Counts.
func TestCounts(t *testing.T) {
	play(t, `
		counts => 1 0 0
		mkdir 0 /a => ok
		open 0 1 1 /f => 0
		dup 0 0 => 1
		pipe 0 => 2 3
		counts => 3 1 3
		close 0 2 => ok
		counts => 3 1 2
		close 0 3 => ok
		counts => 3 0 1
		plant => 1
		counts => 4 0 1
	`)
}
