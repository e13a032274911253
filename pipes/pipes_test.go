package pipes_test

import (
	"fmt"
	"math"
	"strings"
	"testing"

	"wardroom/api"
	"wardroom/pipes"
)

// Numbers that are no pipe's.
var strange = []int{-1, -2, api.Pipes, api.Pipes + 1, math.MinInt, math.MaxInt, math.MinInt32, math.MaxInt32, 1 << 32}

// Which way a pipe is open.
const (
	toRead  = false
	toWrite = true
)

func wantErr(t *testing.T, what string, err, want error) {
	t.Helper()
	if err != want {
		t.Errorf("%s: %v, want %v", what, err, want)
	}
}

func wantMake(t *testing.T, s *pipes.Set, want int, fault error) {
	t.Helper()
	if n, err := s.Make(); n != want || err != fault {
		t.Errorf("Make(): %d %v, want %d %v", n, err, want, fault)
	}
}

func wantShare(t *testing.T, s *pipes.Set, n int, write bool, fault error) {
	t.Helper()
	wantErr(t, fmt.Sprintf("Share(%d, %t)", n, write), s.Share(n, write), fault)
}

func wantDrop(t *testing.T, s *pipes.Set, n int, write bool, fault error) {
	t.Helper()
	wantErr(t, fmt.Sprintf("Drop(%d, %t)", n, write), s.Drop(n, write), fault)
}

func wantRead(t *testing.T, s *pipes.Set, n, many int, want string, fault error) {
	t.Helper()
	if got, err := s.Read(n, many); got != want || err != fault {
		t.Errorf("Read(%d, %d): %q %v, want %q %v", n, many, got, err, want, fault)
	}
}

func wantWrite(t *testing.T, s *pipes.Set, n int, text string, want int, fault error) {
	t.Helper()
	if got, err := s.Write(n, text); got != want || err != fault {
		t.Errorf("Write(%d, %q): %d %v, want %d %v", n, text, got, err, want, fault)
	}
}

func wantOf(t *testing.T, s *pipes.Set, n, bytes, reads, writes int) {
	t.Helper()
	b, r, w, err := s.Of(n)
	if b != bytes || r != reads || w != writes || err != nil {
		t.Errorf("Of(%d): %d %d %d %v, want %d %d %d", n, b, r, w, err, bytes, reads, writes)
	}
}

func wantNone(t *testing.T, s *pipes.Set, n int, fault error) {
	t.Helper()
	b, r, w, err := s.Of(n)
	if b != 0 || r != 0 || w != 0 || err != fault {
		t.Errorf("Of(%d): %d %d %d %v, want noughts and %v", n, b, r, w, err, fault)
	}
}

func wantPipes(t *testing.T, s *pipes.Set, want int) {
	t.Helper()
	if got := s.Pipes(); got != want {
		t.Errorf("Pipes(): %d, want %d", got, want)
	}
}

// made: a set with so many pipes, of the numbers from 0 on.
func made(t *testing.T, many int) *pipes.Set {
	t.Helper()
	s := &pipes.Set{}
	for n := range many {
		if got, err := s.Make(); got != n || err != nil {
			t.Fatalf("Make(): %d %v, want %d", got, err, n)
		}
	}
	return s
}

// put: bytes for which there is room.
func put(t *testing.T, s *pipes.Set, n int, text string) {
	t.Helper()
	if got, err := s.Write(n, text); got != len(text) || err != nil {
		t.Fatalf("Write(%d, %q): %d %v", n, text, got, err)
	}
}

func drop(t *testing.T, s *pipes.Set, n int, write bool) {
	t.Helper()
	if err := s.Drop(n, write); err != nil {
		t.Fatalf("Drop(%d, %t): %v", n, write, err)
	}
}

// state: all that a set tells of itself without being changed.
func state(s *pipes.Set) string {
	all := fmt.Sprint(s.Pipes())
	for n := range api.Pipes {
		b, r, w, err := s.Of(n)
		all += fmt.Sprint(";", b, " ", r, " ", w, " ", err)
	}
	return all
}

func wantSame(t *testing.T, s *pipes.Set, was string) {
	t.Helper()
	if got := state(s); got != was {
		t.Errorf("the set is %s, was %s", got, was)
	}
}

// wantRefused: every call that names a pipe answers that error, whatever else is wrong.
func wantRefused(t *testing.T, s *pipes.Set, n int, fault error) {
	t.Helper()
	for _, write := range []bool{toRead, toWrite} {
		wantShare(t, s, n, write, fault)
		wantDrop(t, s, n, write, fault)
	}
	for _, many := range []int{0, 1, -1, math.MinInt, math.MaxInt} {
		wantRead(t, s, n, many, "", fault)
	}
	for _, text := range []string{"", "a", strings.Repeat("a", 100)} {
		wantWrite(t, s, n, text, 0, fault)
	}
	wantNone(t, s, n, fault)
}

// I1: the zero value has no pipes.
func TestZeroValue(t *testing.T) {
	var s pipes.Set
	wantPipes(t, &s, 0)
	for n := range api.Pipes {
		wantRefused(t, &s, n, api.ErrNone)
	}
	wantPipes(t, &s, 0)
	wantMake(t, &s, 0, nil)
}

// I1: a new pipe is open once either way, and has no bytes.
func TestMake(t *testing.T) {
	s := &pipes.Set{}
	for n := range api.Pipes {
		wantMake(t, s, n, nil)
		wantOf(t, s, n, 0, 1, 1)
		wantPipes(t, s, n+1)
	}
	was := state(s)
	wantMake(t, s, 0, api.ErrFull)
	wantSame(t, s, was)
}

// I1: the lowest free number is taken, and what had it leaves nothing.
func TestMakeTakesTheLowest(t *testing.T) {
	s := made(t, api.Pipes)
	for _, n := range []int{5, 2, 7} {
		put(t, s, n, "old")
		wantShare(t, s, n, toRead, nil)
		wantShare(t, s, n, toWrite, nil)
		for range 2 {
			drop(t, s, n, toRead)
			drop(t, s, n, toWrite)
		}
		wantRefused(t, s, n, api.ErrNone)
	}
	wantPipes(t, s, api.Pipes-3)
	for _, n := range []int{2, 5, 7} {
		wantMake(t, s, n, nil)
		wantOf(t, s, n, 0, 1, 1)
		wantRead(t, s, n, 1, "", api.ErrAgain)
	}
	wantMake(t, s, 0, api.ErrFull)
}

// I1: each way is counted by itself.
func TestShareAndDrop(t *testing.T) {
	s := made(t, 2)
	wantShare(t, s, 1, toRead, nil)
	wantOf(t, s, 1, 0, 2, 1)
	wantShare(t, s, 1, toWrite, nil)
	wantShare(t, s, 1, toWrite, nil)
	wantOf(t, s, 1, 0, 2, 3)
	wantDrop(t, s, 1, toRead, nil)
	wantOf(t, s, 1, 0, 1, 3)
	wantDrop(t, s, 1, toWrite, nil)
	wantOf(t, s, 1, 0, 1, 2)
	wantOf(t, s, 0, 0, 1, 1)
	wantPipes(t, s, 2)
}

// I1: what isn't open one way is neither shared nor dropped that way, and never opens again.
func TestNotOpenThatWay(t *testing.T) {
	for _, write := range []bool{toRead, toWrite} {
		s := made(t, 1)
		put(t, s, 0, "abc")
		drop(t, s, 0, write)
		was := state(s)
		wantShare(t, s, 0, write, api.ErrState)
		wantDrop(t, s, 0, write, api.ErrState)
		wantSame(t, s, was)
		wantShare(t, s, 0, !write, nil)
		wantDrop(t, s, 0, !write, nil)
		wantSame(t, s, was)
	}
}

// I1: a pipe is no more when it is open neither way, whichever was first, and whatever bytes it had.
func TestOpenNeitherWay(t *testing.T) {
	for _, first := range []bool{toRead, toWrite} {
		s := made(t, 3)
		put(t, s, 1, "abc")
		drop(t, s, 1, first)
		wantPipes(t, s, 3)
		drop(t, s, 1, !first)
		wantPipes(t, s, 2)
		wantRefused(t, s, 1, api.ErrNone)
		wantOf(t, s, 0, 0, 1, 1)
		wantOf(t, s, 2, 0, 1, 1)
	}
}

// I1, Z1, Z3: a number that is none is told ahead of all else, and changes nothing.
func TestStrangeNumbers(t *testing.T) {
	for _, s := range []*pipes.Set{{}, made(t, api.Pipes)} {
		was := state(s)
		for _, n := range strange {
			wantRefused(t, s, n, api.ErrBound)
		}
		wantSame(t, s, was)
	}
}

// I2: bytes come as they were written, each once.
func TestReadAndWrite(t *testing.T) {
	s := made(t, 1)
	wantWrite(t, s, 0, "hello", 5, nil)
	wantRead(t, s, 0, 2, "he", nil)
	wantOf(t, s, 0, 3, 1, 1)
	wantWrite(t, s, 0, "world", 5, nil)
	wantOf(t, s, 0, 8, 1, 1)
	wantRead(t, s, 0, 4, "llow", nil)
	wantRead(t, s, 0, 100, "orld", nil)
	wantOf(t, s, 0, 0, 1, 1)
	wantRead(t, s, 0, 1, "", api.ErrAgain)
}

// I2: bytes are any bytes.
func TestAllBytes(t *testing.T) {
	s := made(t, 1)
	for c := range 256 {
		text := string([]byte{byte(c), 0, byte(255 - c)})
		wantWrite(t, s, 0, text, 3, nil)
		wantRead(t, s, 0, 3, text, nil)
	}
}

// I2: many is at most so many; all numbers from 0 on will do.
func TestReadMany(t *testing.T) {
	for _, many := range []int{0, 1, 2, 3, 4, api.PipeRoom, api.PipeRoom + 1, 1 << 32, math.MaxInt} {
		s := made(t, 1)
		put(t, s, 0, "abc")
		want := min(many, 3)
		wantRead(t, s, 0, many, "abc"[:want], nil)
		wantOf(t, s, 0, 3-want, 1, 1)
	}
}

// I2: what is wrong with many is told with and without bytes, open to be written or not.
func TestReadBelowNought(t *testing.T) {
	for _, text := range []string{"", "abc"} {
		for _, shut := range []bool{false, true} {
			s := made(t, 1)
			put(t, s, 0, text)
			if shut {
				drop(t, s, 0, toWrite)
			}
			was := state(s)
			wantRead(t, s, 0, -1, "", api.ErrBound)
			wantRead(t, s, 0, math.MinInt, "", api.ErrBound)
			wantSame(t, s, was)
			wantRead(t, s, 0, 0, "", nil)
			if text != "" {
				wantRead(t, s, 0, 3, text, nil)
			}
		}
	}
}

// I2: without bytes there may be some yet, as long as it is open to be written; of none nothing is wanted.
func TestReadNoBytes(t *testing.T) {
	s := made(t, 1)
	wantShare(t, s, 0, toWrite, nil)
	for range 2 {
		wantRead(t, s, 0, 1, "", api.ErrAgain)
		wantRead(t, s, 0, math.MaxInt, "", api.ErrAgain)
		wantRead(t, s, 0, 0, "", nil)
		drop(t, s, 0, toWrite)
	}
	wantRead(t, s, 0, 1, "", nil)
	wantRead(t, s, 0, math.MaxInt, "", nil)
	wantRead(t, s, 0, 0, "", nil)
	wantOf(t, s, 0, 0, 1, 0)
}

// I2: bytes are there to be read when nobody may write any more.
func TestReadBehindTheLastWrite(t *testing.T) {
	s := made(t, 1)
	put(t, s, 0, "abc")
	drop(t, s, 0, toWrite)
	wantRead(t, s, 0, 2, "ab", nil)
	wantRead(t, s, 0, 2, "c", nil)
	wantRead(t, s, 0, 2, "", nil)
	wantWrite(t, s, 0, "d", 0, api.ErrState)
	wantWrite(t, s, 0, "", 0, api.ErrState)
}

// I2, Z3: what isn't open to be read tells so, whatever many is.
func TestReadNotOpen(t *testing.T) {
	for _, text := range []string{"", "abc"} {
		s := made(t, 1)
		put(t, s, 0, text)
		drop(t, s, 0, toRead)
		was := state(s)
		for _, many := range []int{-1, 0, 1, math.MinInt, math.MaxInt} {
			wantRead(t, s, 0, many, "", api.ErrState)
		}
		wantSame(t, s, was)
	}
}

// I2: nobody reads any more: of nothing, too, and of a full pipe ahead of its want of room.
func TestWriteBroken(t *testing.T) {
	for many := range api.PipeRoom + 1 {
		s := made(t, 1)
		put(t, s, 0, "abcdefghijkl"[:many])
		drop(t, s, 0, toRead)
		was := state(s)
		wantWrite(t, s, 0, "a", 0, api.ErrBroken)
		wantWrite(t, s, 0, "", 0, api.ErrBroken)
		wantSame(t, s, was)
		wantOf(t, s, 0, many, 0, 1)
	}
}

// I2: as many bytes as there is room for are written, and from the first one on.
func TestWriteRoom(t *testing.T) {
	const text = "0123456789abcdef"
	for has := range api.PipeRoom + 1 {
		for many := range len(text) + 1 {
			s := made(t, 1)
			put(t, s, 0, "ABCDEFGHIJKL"[:has])
			room := api.PipeRoom - has
			if room == 0 && many > 0 {
				wantWrite(t, s, 0, text[:many], 0, api.ErrAgain)
				wantRead(t, s, 0, 100, "ABCDEFGHIJKL", nil)
				continue
			}
			put := min(room, many)
			wantWrite(t, s, 0, text[:many], put, nil)
			wantOf(t, s, 0, has+put, 1, 1)
			if has+put > 0 {
				wantRead(t, s, 0, 100, "ABCDEFGHIJKL"[:has]+text[:put], nil)
			}
		}
	}
}

// I2: of a full pipe no bytes may be read, and none written; for each byte that is read one may be written.
func TestFull(t *testing.T) {
	s := made(t, 1)
	wantWrite(t, s, 0, strings.Repeat("ab", 10000), api.PipeRoom, nil)
	was := state(s)
	wantWrite(t, s, 0, "c", 0, api.ErrAgain)
	wantWrite(t, s, 0, "", 0, nil)
	wantRead(t, s, 0, 0, "", nil)
	wantSame(t, s, was)
	for range 3 * api.PipeRoom {
		wantRead(t, s, 0, 2, "ab", nil)
		wantWrite(t, s, 0, "abc", 2, nil)
		wantWrite(t, s, 0, "c", 0, api.ErrAgain)
	}
}

// I2, Z2: each pipe has bytes of its own, and each set pipes of its own.
func TestApart(t *testing.T) {
	s, other := made(t, api.Pipes), made(t, api.Pipes)
	for n := range api.Pipes {
		put(t, s, n, fmt.Sprint("pipe ", n))
	}
	for n := range api.Pipes {
		wantRead(t, other, n, 10, "", api.ErrAgain)
		wantRead(t, s, n, 10, fmt.Sprint("pipe ", n), nil)
	}
	drop(t, s, 3, toRead)
	drop(t, s, 3, toWrite)
	wantPipes(t, other, api.Pipes)
}

// Z2: what was read stays as it is, whatever is written behind it.
func TestReadIsTheCallers(t *testing.T) {
	s := made(t, 1)
	put(t, s, 0, "abcdef")
	got, _ := s.Read(0, 3)
	put(t, s, 0, "ghijkl")
	wantRead(t, s, 0, 100, "defghijkl", nil)
	put(t, s, 0, "mnopqr")
	if got != "abc" {
		t.Errorf("what was read came to be %q", got)
	}
}

// Z2: of a text that is a piece of another one, what stands behind it isn't taken.
func TestWriteAPiece(t *testing.T) {
	s := made(t, 1)
	text := "abcdefghijkl"
	put(t, s, 0, text[2:5])
	wantRead(t, s, 0, 100, "cde", nil)
}
