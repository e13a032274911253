package kernel_test

import (
	"fmt"
	"strings"
	"testing"

	"wardroom/api"
	"wardroom/kernel"
)

// M8: what names no number of a process, or one that is free, is refused.
func TestNumbers(t *testing.T) {
	k := play(t, `
		fork 0 0 => 2
		open 1 1 1 /f => 0
		open 1 1 1 /f => 1
		close 1 0 => ok
		open 0 1 1 /f => 0
	`)
	for _, act := range []string{
		"close 1 %d", "dup 1 %d", "read 1 %d 1", "read 1 %d -1", "write 1 %d 61", "seek 1 %d 0", "seek 1 %d -1", "what 1 %d",
	} {
		for _, fd := range append(strange, api.Fds) {
			wantRefused(t, k, fmt.Sprintf(act, fd), api.ErrBound)
		}
		for _, fd := range []int{0, 2, api.Fds - 1} {
			wantRefused(t, k, fmt.Sprintf(act, fd), api.ErrNone)
		}
	}
}

// M8: the lowest free number is taken, each time for an open file of its own.
func TestOpen(t *testing.T) {
	play(t, `
		open 0 1 1 /f => 0
		open 0 0 0 /f => 1
		open 0 1 1 /g => 2
		what 0 0 => 1 1 0 1
		what 0 1 => 1 1 0 1
		what 0 2 => 1 2 0 1
		counts => 3 0 3
		write 0 0 6162 => 2
		write 0 1 63 => error 8
		read 0 1 1 => 61
		read 0 0 1 => -
		what 0 0 => 1 1 2 1
		what 0 1 => 1 1 1 1
		close 0 1 => ok
		open 0 0 1 /g => 1
		what 0 1 => 1 2 0 1
		node 0 /f => 1 1 1 2
		node 0 /g => 1 1 2 0
	`)
}

// M8: a file that isn't there is made, if that is asked for.
func TestOpenMakes(t *testing.T) {
	k := play(t, "mkdir 0 /a => ok\nopen 0 1 1 /f => 0")
	for _, made := range []int{0, 1} {
		for _, c := range []struct {
			path string
			err  api.Errno
		}{
			{"f", api.ErrText}, {"/f/", api.ErrText}, {"/A", api.ErrText}, {"/tencharsxx", api.ErrText},
			{"/" + strings.Repeat("../", 19) + "../", api.ErrText},
			{"/f/x", api.ErrKind}, {"/f/x/y", api.ErrKind},
			{"/", api.ErrKind}, {"/a", api.ErrKind}, {"/..", api.ErrKind}, {"/a/..", api.ErrKind},
			{"/x/y", api.ErrNone}, {"/a/x/y", api.ErrNone},
		} {
			wantRefused(t, k, fmt.Sprintf("open 0 1 %d %s", made, c.path), c.err)
		}
	}
	wantRefused(t, k, "open 0 1 0 /x", api.ErrNone)
	wantRefused(t, k, "open 0 1 0 /a/x", api.ErrNone)
	wantRefused(t, k, "open 0 1 0 /x/..", api.ErrNone)
	wantRefused(t, k, "open 0 1 1 /x/..", api.ErrText)
	wantRefused(t, k, "open 0 1 1 /a/x/..", api.ErrText)
	goOn(t, k, `
		open 0 1 1 /a/x => 1
		node 0 /a/x => 1 1 1 0
		open 0 0 0 /a/../a/x => 2
		names 0 / => a f
	`)
}

// M8: texts that stand in no script are no paths, either.
func TestOddPaths(t *testing.T) {
	k := kernel.New()
	for _, path := range []string{"", " ", "/ ", "/a b", "/a\x00", "/\xff", "//", "/a//b", "/.", "/é"} {
		for _, act := range []func() error{
			func() error { _, err := k.Open(0, path, true, true); return err },
			func() error { return k.MakeDir(0, path) },
			func() error { return k.Remove(0, path) },
			func() error { return k.Move(0, path, "/a") },
			func() error { return k.Link(0, path, "/a") },
			func() error { _, err := k.Names(0, path); return err },
			func() error { _, err := k.Node(0, path); return err },
			func() error { return k.Bind(0, path, "/") },
			func() error { return k.Bind(0, "/", path) },
			func() error { return k.Unbind(0, path) },
		} {
			wantSame(t, k, path, func() {
				if err := act(); err != api.ErrText {
					t.Errorf("%q: %v, want %v", path, err, api.ErrText)
				}
			})
		}
	}
}

// M8: a file is made where there is room for it alone.
func TestOpenWithoutRoomForTheFile(t *testing.T) {
	k := kernel.New()
	for kid := range api.Kids {
		goOn(t, k, fmt.Sprintf("mkdir 0 /d%d => ok", kid))
	}
	wantRefused(t, k, "open 0 1 1 /f", api.ErrFull)
	wantRefused(t, k, "open 0 1 0 /f", api.ErrNone)
	for node := 1 + api.Kids; node < api.Nodes; node++ {
		goOn(t, k, fmt.Sprintf("mkdir 0 /d%d/e%d => ok", node%api.Kids, node))
	}
	wantRefused(t, k, "open 0 1 1 /d0/f", api.ErrFull)
	goOn(t, k, "remove 0 /d1/e9 => ok\nopen 0 1 1 /d0/f => 0")
}

// M8: none of a process's numbers is free: that is told ahead of what is wrong with the path.
func TestOpenWithoutNumbers(t *testing.T) {
	k := kernel.New()
	for fd := range api.Fds {
		goOn(t, k, fmt.Sprintf("open 0 1 1 /f => %d", fd))
	}
	wantRefused(t, k, "open 0 1 1 /f", api.ErrFull)
	wantRefused(t, k, "open 0 1 1 /g", api.ErrFull)
	wantRefused(t, k, "open 0 1 1 f", api.ErrFull)
	wantRefused(t, k, "dup 0 0", api.ErrFull)
	wantRefused(t, k, "dup 0 6", api.ErrBound)
	wantRefused(t, k, "pipe 0", api.ErrFull)
	goOn(t, k, "close 0 3 => ok")
	wantRefused(t, k, "pipe 0", api.ErrFull)
	goOn(t, k, "dup 0 5 => 3\nclose 0 3 => ok\nclose 0 1 => ok\npipe 0 => 1 3")
}

// crowd: a kernel with processes 0 to 3, that have all open files but so many.
func crowd(t *testing.T, but int) *kernel.Kernel {
	t.Helper()
	k := play(t, "fork 0 0 => 2\nfork 0 0 => 3\nfork 0 0 => 4\nfork 0 0 => 5")
	for n := range api.Open - but {
		goOn(t, k, fmt.Sprintf("open %d 1 1 /f => %d", n/api.Fds, n%api.Fds))
	}
	return k
}

// M8: no open file's number is free: that is told ahead of what is wrong with the path, and nothing is made.
func TestOpenWithoutOpenFiles(t *testing.T) {
	k := crowd(t, 0)
	wantRefused(t, k, "open 4 1 1 /f", api.ErrFull)
	wantRefused(t, k, "open 4 1 1 /g", api.ErrFull)
	wantRefused(t, k, "open 4 1 1 g", api.ErrFull)
	wantRefused(t, k, "pipe 4", api.ErrFull)
	goOn(t, k, "close 2 2 => ok\ncounts => 2 0 23")
	wantRefused(t, k, "pipe 4", api.ErrFull)
	goOn(t, k, "close 1 2 => ok\npipe 4 => 0 1\nwhat 4 0 => 2 0 0 1\nwhat 4 1 => 3 0 0 1\ncounts => 2 1 24")
}

// M8: a number of a process costs no open file, when others have it, too.
func TestDupWithoutOpenFiles(t *testing.T) {
	k := crowd(t, 0)
	goOn(t, k, "fork 3 0 => 6\nclose 5 1 => ok\ndup 5 5 => 1\nwhat 5 1 => 1 1 0 3\ncounts => 2 0 24")
}

// M8: pipes are Pipes at most.
func TestPipeWithoutPipes(t *testing.T) {
	k := play(t, "fork 0 0 => 2\nfork 0 0 => 3")
	for n := range api.Pipes {
		goOn(t, k, fmt.Sprintf("pipe %d => %d %d", n/3, n%3*2, n%3*2+1))
	}
	wantRefused(t, k, "pipe 2", api.ErrFull)
	goOn(t, k, "close 0 0 => ok")
	wantRefused(t, k, "pipe 2", api.ErrFull)
	goOn(t, k, "close 0 1 => ok\npipe 2 => 4 5\nwhat 2 4 => 2 0 0 1\ncounts => 1 8 16")
}

// M8: the two lowest free numbers are for the ends.
func TestPipe(t *testing.T) {
	play(t, `
		open 0 1 1 /f => 0
		open 0 1 1 /f => 1
		open 0 1 1 /f => 2
		close 0 1 => ok
		pipe 0 => 1 3
		what 0 1 => 2 0 0 1
		what 0 3 => 3 0 0 1
		write 0 3 6162 => 2
		read 0 1 9 => 6162
		read 0 3 1 => error 8
		write 0 1 61 => error 8
		seek 0 1 0 => error 11
		counts => 2 1 4
	`)
}

// M8: Close and Dup.
func TestCloseAndDup(t *testing.T) {
	play(t, `
		open 0 1 1 /f => 0
		open 0 1 1 /g => 1
		dup 0 1 => 2
		close 0 0 => ok
		dup 0 2 => 0
		what 0 0 => 1 2 0 3
		write 0 0 616263 => 3
		seek 0 1 1 => ok
		read 0 2 1 => 62
		what 0 2 => 1 2 2 3
		counts => 3 0 1
		close 0 0 => ok
		close 0 0 => error 2
		close 0 2 => ok
		what 0 1 => 1 2 2 1
		close 0 1 => ok
		counts => 3 0 0
		node 0 /g => 1 1 0 3
		remove 0 /g => ok
		counts => 2 0 0
	`)
}

// M8: a file stays while it is open, though it has no name.
func TestOpenWithoutName(t *testing.T) {
	play(t, `
		open 0 1 1 /f => 0
		fork 0 0 => 2
		remove 0 /f => ok
		write 1 0 6162 => 2
		seek 0 0 0 => ok
		close 0 0 => ok
		read 1 0 5 => 6162
		open 0 1 1 /f => 0
		what 0 0 => 1 2 0 1
		counts => 3 0 2
		close 1 0 => ok
		counts => 2 0 1
	`)
}

// M9: bytes of a file, at its place.
func TestReadWriteSeek(t *testing.T) {
	k := play(t, `
		open 0 1 1 /f => 0
		write 0 0 616263646566 => 6
		seek 0 0 2 => ok
		read 0 0 2 => 6364
		read 0 0 0 => -
		read 0 0 100 => 6566
		read 0 0 1 => -
		seek 0 0 40 => ok
		write 0 0 - => 0
		seek 0 0 8 => ok
		write 0 0 7a => 1
		seek 0 0 0 => ok
		read 0 0 40 => 61626364656600007a
	`)
	wantRefused(t, k, "read 0 0 -1", api.ErrBound)
	wantRefused(t, k, "seek 0 0 41", api.ErrBound)
	wantRefused(t, k, "seek 0 0 -1", api.ErrBound)
	goOn(t, k, "seek 0 0 39 => ok\nwrite 0 0 61 => 1")
	wantRefused(t, k, "write 0 0 61", api.ErrFull)
}

// M9, W5: bytes of a pipe come to whoever reads them, each once.
func TestThroughAPipe(t *testing.T) {
	k := play(t, `
		pipe 0 => 0 1
		fork 0 0 => 2
		fork 0 1 => 3
		read 1 0 1 => error 13
		write 1 1 616263 => 3
		read 2 0 2 => 6162
		read 0 0 2 => 63
		write 2 1 616263646566676869 => 9
		write 0 1 7172737475 => 3
		write 1 1 71 => error 13
		read 1 0 12 => 616263646566676869717273
		write 2 1 - => 0
		close 0 1 => ok
		close 1 1 => ok
		read 0 0 1 => error 13
		exit 2 0 => ok
		read 0 0 1 => -
	`)
	wantRefused(t, k, "read 0 0 -1", api.ErrBound)
}

// M9: who writes where nobody reads is sent Pipe, and ends by it.
func TestBrokenPipe(t *testing.T) {
	k := play(t, `
		how 0 3 2 => ok
		pipe 0 => 0 1
		fork 0 0 => 2
		fork 0 0 => 3
		close 1 0 => ok
		close 2 0 => ok
		write 1 1 61 => 1
		close 0 0 => ok
		write 1 1 61 => error 12
		procs => 0 2
		take 0 => 3
		wait 0 => 2 130
		what 0 1 => 3 0 0 2
		how 2 2 2 => ok
		write 2 1 - => error 12
		take 2 => 2
		take 2 => error 2
		how 2 2 1 => ok
		write 2 1 61 => error 12
		self 2 => 3
		how 2 2 0 => ok
		hold 2 2 1 => ok
		write 2 1 61 => error 12
		self 2 => 3
		hold 2 2 0 => ok
		wait 0 => 3 130
		what 0 1 => 3 0 0 1
		write 0 1 61 => error 12
		self 0 => 1
	`)
	goOn(t, k, "close 0 1 => ok\ncounts => 1 0 0")
}

// M9: other errors of Write send nothing.
func TestWriteSendsPipeAlone(t *testing.T) {
	play(t, `
		fork 0 0 => 2
		pipe 1 => 0 1
		open 1 0 1 /f => 2
		how 1 2 2 => ok
		write 1 0 61 => error 8
		write 1 2 61 => error 8
		write 1 1 616161616161616161616161 => 12
		write 1 1 61 => error 13
		write 1 5 61 => error 2
		take 1 => error 2
		close 1 1 => ok
		write 1 1 61 => error 2
		read 1 0 12 => 616161616161616161616161
		read 1 0 1 => -
		take 1 => error 2
	`)
}
