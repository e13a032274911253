package files_test

import (
	"fmt"
	"math"
	"strings"
	"testing"

	"wardroom/api"
	"wardroom/files"
	"wardroom/pipes"
	"wardroom/tree"
)

// Numbers that are no open file's, and no node's.
var (
	far         = []int{-1, -2, math.MinInt, math.MaxInt, math.MinInt32, math.MaxInt32, 1 << 32}
	strange     = append([]int{api.Open, api.Open + 1}, far...)
	strangeNode = append([]int{api.Nodes, api.Nodes + 1}, far...)
)

// Nodes of the forest that set makes.
const (
	root   = 0
	fileA  = 1 // "a" of the root
	fileB  = 2 // "b"
	dirC   = 3 // "c"
	noNode = 4
)

// To be written, or not.
const (
	writable = true
	readOnly = false
)

// desk: a table, and what it was made of.
type desk struct {
	*files.Table
	forest *tree.Forest
	pipes  *pipes.Set
}

// set a table over a forest with two files and a directory.
func set(t *testing.T) desk {
	t.Helper()
	f, p := tree.New(), &pipes.Set{}
	if _, err := f.Plant(); err != nil {
		t.Fatal(err)
	}
	for i, kind := range []int{api.File, api.File, api.Dir} {
		if n, err := f.Make(root, "abc"[i:i+1], kind); n != fileA+i || err != nil {
			t.Fatalf("Make: %d %v", n, err)
		}
	}
	return desk{files.New(f, p), f, p}
}

func wantErr(t *testing.T, what string, err, want error) {
	t.Helper()
	if err != want {
		t.Errorf("%s: %v, want %v", what, err, want)
	}
}

// must: an act that isn't refused.
func must(t *testing.T, what string, err error) {
	t.Helper()
	if err != nil {
		t.Fatalf("%s: %v", what, err)
	}
}

func wantNode(t *testing.T, d desk, node int, write bool, want int, fault error) {
	t.Helper()
	if n, err := d.Node(node, write); n != want || err != fault {
		t.Errorf("Node(%d, %t): %d %v, want %d %v", node, write, n, err, want, fault)
	}
}

func wantPipe(t *testing.T, d desk, reading, writing int, fault error) {
	t.Helper()
	if r, w, err := d.Pipe(); r != reading || w != writing || err != fault {
		t.Errorf("Pipe(): %d %d %v, want %d %d %v", r, w, err, reading, writing, fault)
	}
}

func wantShare(t *testing.T, d desk, n int, fault error) {
	t.Helper()
	wantErr(t, fmt.Sprintf("Share(%d)", n), d.Share(n), fault)
}

func wantClose(t *testing.T, d desk, n int, fault error) {
	t.Helper()
	wantErr(t, fmt.Sprintf("Close(%d)", n), d.Close(n), fault)
}

func wantSeek(t *testing.T, d desk, n, at int, fault error) {
	t.Helper()
	wantErr(t, fmt.Sprintf("Seek(%d, %d)", n, at), d.Seek(n, at), fault)
}

func wantRead(t *testing.T, d desk, n, many int, want string, fault error) {
	t.Helper()
	if got, err := d.Read(n, many); got != want || err != fault {
		t.Errorf("Read(%d, %d): %q %v, want %q %v", n, many, got, err, want, fault)
	}
}

func wantWrite(t *testing.T, d desk, n int, s string, want int, fault error) {
	t.Helper()
	if got, err := d.Write(n, s); got != want || err != fault {
		t.Errorf("Write(%d, %q): %d %v, want %d %v", n, s, got, err, want, fault)
	}
}

func wantOf(t *testing.T, d desk, n, kind, of, at, refs int) {
	t.Helper()
	k, o, a, r, err := d.Of(n)
	if k != kind || o != of || a != at || r != refs || err != nil {
		t.Errorf("Of(%d): %d %d %d %d %v, want %d %d %d %d", n, k, o, a, r, err, kind, of, at, refs)
	}
}

func wantNone(t *testing.T, d desk, n int, fault error) {
	t.Helper()
	k, o, a, r, err := d.Of(n)
	if k != 0 || o != 0 || a != 0 || r != 0 || err != fault {
		t.Errorf("Of(%d): %d %d %d %d %v, want noughts and %v", n, k, o, a, r, err, fault)
	}
}

// wantOpen: so many are open, and for the others there is room.
func wantOpen(t *testing.T, d desk, want int) {
	t.Helper()
	if got := d.Open(); got != want {
		t.Errorf("Open(): %d, want %d", got, want)
	}
	for many := -1; many <= api.Open+1; many++ {
		wantRoom(t, d, many, want+many <= api.Open)
	}
}

func wantRoom(t *testing.T, d desk, many int, want bool) {
	t.Helper()
	if got := d.Room(many); got != want {
		t.Errorf("Room(%d): %t, want %t", many, got, want)
	}
}

func wantHeld(t *testing.T, d desk, node, want int) {
	t.Helper()
	if x, err := d.forest.Of(node); x.Held != want || err != nil {
		t.Errorf("the node %d is held %d times %v, want %d", node, x.Held, err, want)
	}
}

func wantBytes(t *testing.T, d desk, node int, want string) {
	t.Helper()
	if got, err := d.forest.Read(node, 0, api.MaxData); got != want || err != nil {
		t.Errorf("the node %d has %q %v, want %q", node, got, err, want)
	}
}

// wantPipeIs: how many bytes a pipe has, and how often it is open either way.
func wantPipeIs(t *testing.T, d desk, n, bytes, reads, writes int) {
	t.Helper()
	b, r, w, err := d.pipes.Of(n)
	if b != bytes || r != reads || w != writes || err != nil {
		t.Errorf("the pipe %d: %d %d %d %v, want %d %d %d", n, b, r, w, err, bytes, reads, writes)
	}
}

func wantPipes(t *testing.T, d desk, want int) {
	t.Helper()
	if got := d.pipes.Pipes(); got != want {
		t.Errorf("there are %d pipes, want %d", got, want)
	}
}

// open a node, as the open file of that number.
func open(t *testing.T, d desk, node int, write bool, want int) {
	t.Helper()
	if n, err := d.Node(node, write); n != want || err != nil {
		t.Fatalf("Node(%d, %t): %d %v, want %d", node, write, n, err, want)
	}
}

// ends of a new pipe, as the open files of these numbers.
func ends(t *testing.T, d desk, reading, writing int) {
	t.Helper()
	if r, w, err := d.Pipe(); r != reading || w != writing || err != nil {
		t.Fatalf("Pipe(): %d %d %v, want %d %d", r, w, err, reading, writing)
	}
}

// state: all that a table tells of itself, and what it was made of.
func state(d desk) string {
	all := fmt.Sprint(d.Open(), d.forest.Nodes(), d.pipes.Pipes())
	for n := range api.Open {
		kind, of, at, refs, err := d.Of(n)
		all += fmt.Sprint(";", kind, of, at, refs, err)
	}
	for n := range api.Nodes {
		x, _ := d.forest.Of(n)
		s, _ := d.forest.Read(n, 0, api.MaxData)
		all += fmt.Sprint(";", x, s)
	}
	for n := range api.Pipes {
		bytes, reads, writes, err := d.pipes.Of(n)
		all += fmt.Sprint(";", bytes, reads, writes, err)
	}
	return all
}

// wantSame: calls that were refused change nothing.
func wantSame(t *testing.T, d desk, was string) {
	t.Helper()
	if got := state(d); got != was {
		t.Errorf("now %s, was %s", got, was)
	}
}

// wantRefused: every call that names an open file answers that error, whatever else is wrong.
func wantRefused(t *testing.T, d desk, n int, fault error) {
	t.Helper()
	wantShare(t, d, n, fault)
	wantClose(t, d, n, fault)
	for _, x := range []int{0, 1, -1, api.MaxData + 1, math.MinInt, math.MaxInt} {
		wantRead(t, d, n, x, "", fault)
		wantSeek(t, d, n, x, fault)
	}
	for _, s := range []string{"", "a", strings.Repeat("a", 100)} {
		wantWrite(t, d, n, s, 0, fault)
	}
	wantNone(t, d, n, fault)
}

// K1: nothing is open at first.
func TestNew(t *testing.T) {
	d := set(t)
	wantOpen(t, d, 0)
	was := state(d)
	for n := range api.Open {
		wantRefused(t, d, n, api.ErrNone)
	}
	wantSame(t, d, was)
}

// K1, Z1: Room of all numbers.
func TestRoom(t *testing.T) {
	d := set(t)
	for n := range api.Open {
		wantOpen(t, d, n)
		open(t, d, fileA, readOnly, n)
	}
	wantOpen(t, d, api.Open)
	for _, many := range []int{0, -1, -api.Open, math.MinInt32, math.MinInt} {
		wantRoom(t, d, many, true)
	}
	for _, many := range []int{1, math.MaxInt32, 1 << 32, math.MaxInt} {
		wantRoom(t, d, many, false)
	}
}

// K1: an open file has the lowest free number, is at 0, and holds its node.
func TestNode(t *testing.T) {
	d := set(t)
	wantNode(t, d, fileB, writable, 0, nil)
	wantNode(t, d, fileA, readOnly, 1, nil)
	wantNode(t, d, fileB, readOnly, 2, nil)
	wantOf(t, d, 0, api.OnNode, fileB, 0, 1)
	wantOf(t, d, 1, api.OnNode, fileA, 0, 1)
	wantOf(t, d, 2, api.OnNode, fileB, 0, 1)
	wantHeld(t, d, fileA, 1)
	wantHeld(t, d, fileB, 2)
	wantHeld(t, d, root, 0)
	wantOpen(t, d, 3)
	wantPipes(t, d, 0)
}

// K1: what is wrong with a node is told, and ahead of the want of numbers.
func TestNodeRefused(t *testing.T) {
	for _, full := range []bool{false, true} {
		d := set(t)
		for n := 0; full && n < api.Open; n++ {
			open(t, d, fileA, readOnly, n)
		}
		was := state(d)
		for _, write := range []bool{readOnly, writable} {
			for _, n := range strangeNode {
				wantNode(t, d, n, write, 0, api.ErrBound)
			}
			for n := noNode; n < api.Nodes; n++ {
				wantNode(t, d, n, write, 0, api.ErrNone)
			}
			wantNode(t, d, root, write, 0, api.ErrKind)
			wantNode(t, d, dirC, write, 0, api.ErrKind)
			if full {
				wantNode(t, d, fileA, write, 0, api.ErrFull)
			}
		}
		wantSame(t, d, was)
	}
}

// K1: both ends of a new pipe have the two lowest free numbers, that to be read first.
func TestPipe(t *testing.T) {
	d := set(t)
	wantPipe(t, d, 0, 1, nil)
	wantOf(t, d, 0, api.Reading, 0, 0, 1)
	wantOf(t, d, 1, api.Writing, 0, 0, 1)
	wantPipeIs(t, d, 0, 0, 1, 1)
	open(t, d, fileA, writable, 2)
	wantPipe(t, d, 3, 4, nil)
	wantOf(t, d, 3, api.Reading, 1, 0, 1)
	wantOf(t, d, 4, api.Writing, 1, 0, 1)
	must(t, "Close(0)", d.Close(0))
	must(t, "Close(2)", d.Close(2))
	wantPipe(t, d, 0, 2, nil)
	wantOf(t, d, 0, api.Reading, 2, 0, 1)
	wantOf(t, d, 2, api.Writing, 2, 0, 1)
	wantOpen(t, d, 5)
	wantPipes(t, d, 3)
}

// K1: without two numbers there is no pipe, and none is left behind; with just two there is.
func TestPipeWithoutNumbers(t *testing.T) {
	d := set(t)
	for n := range api.Open {
		open(t, d, fileA, readOnly, n)
	}
	for _, free := range []int{-1, 7} {
		if free >= 0 {
			must(t, "Close", d.Close(free))
		}
		was := state(d)
		wantPipe(t, d, 0, 0, api.ErrFull)
		wantSame(t, d, was)
	}
	must(t, "Close(20)", d.Close(20))
	wantPipe(t, d, 7, 20, nil)
	wantOpen(t, d, api.Open)
}

// K1: Make's error: there are no more pipes, though there are numbers.
func TestPipeWithoutPipes(t *testing.T) {
	d := set(t)
	for n := range api.Pipes {
		ends(t, d, 2*n, 2*n+1)
	}
	was := state(d)
	wantPipe(t, d, 0, 0, api.ErrFull)
	wantSame(t, d, was)
	// A pipe is there while one of its ends is.
	must(t, "Close(6)", d.Close(6))
	wantPipe(t, d, 0, 0, api.ErrFull)
	must(t, "Close(7)", d.Close(7))
	wantPipe(t, d, 6, 7, nil)
	wantOf(t, d, 7, api.Writing, 3, 0, 1)
}

// K1: a pipe that others made is none of the table's: the next one has another number.
func TestPipeBesideOthers(t *testing.T) {
	d := set(t)
	if n, err := d.pipes.Make(); n != 0 || err != nil {
		t.Fatalf("Make(): %d %v", n, err)
	}
	wantPipe(t, d, 0, 1, nil)
	wantOf(t, d, 0, api.Reading, 1, 0, 1)
	must(t, "Close(0)", d.Close(0))
	must(t, "Close(1)", d.Close(1))
	wantPipes(t, d, 1)
	wantPipeIs(t, d, 0, 0, 1, 1)
}

// K1: an open file is there till all that have it closed it; its node is held once.
func TestShareAndClose(t *testing.T) {
	d := set(t)
	open(t, d, fileA, writable, 0)
	for refs := 2; refs < 40; refs++ {
		wantShare(t, d, 0, nil)
		wantOf(t, d, 0, api.OnNode, fileA, 0, refs)
	}
	wantHeld(t, d, fileA, 1)
	wantOpen(t, d, 1)
	for refs := 38; refs > 0; refs-- {
		wantClose(t, d, 0, nil)
		wantOf(t, d, 0, api.OnNode, fileA, 0, refs)
		wantHeld(t, d, fileA, 1)
	}
	wantClose(t, d, 0, nil)
	wantRefused(t, d, 0, api.ErrNone)
	wantHeld(t, d, fileA, 0)
	wantOpen(t, d, 0)
}

// K1: who shares a file has its place, too.
func TestShareThePlace(t *testing.T) {
	d := set(t)
	open(t, d, fileA, writable, 0)
	wantWrite(t, d, 0, "hello", 5, nil)
	wantShare(t, d, 0, nil)
	wantOf(t, d, 0, api.OnNode, fileA, 5, 2)
	wantClose(t, d, 0, nil)
	wantOf(t, d, 0, api.OnNode, fileA, 5, 1)
}

// K1: a number is free when nobody has it, and what had it leaves nothing.
func TestNumbersAgain(t *testing.T) {
	d := set(t)
	for n := range api.Open {
		open(t, d, fileA, writable, n)
		wantSeek(t, d, n, 9, nil)
	}
	for _, n := range []int{17, 4, 0} {
		wantShare(t, d, n, nil)
		wantClose(t, d, n, nil)
		wantNode(t, d, fileB, readOnly, 0, api.ErrFull)
		wantClose(t, d, n, nil)
		wantNode(t, d, fileB, readOnly, n, nil)
		wantOf(t, d, n, api.OnNode, fileB, 0, 1)
		wantWrite(t, d, n, "a", 0, api.ErrState)
	}
	for _, n := range []int{17, 4, 0} {
		wantClose(t, d, n, nil)
	}
	wantOpen(t, d, api.Open-3)
	wantPipe(t, d, 0, 4, nil)
	wantOf(t, d, 0, api.Reading, 0, 0, 1)
	wantNode(t, d, fileB, writable, 17, nil)
	wantNode(t, d, fileB, writable, 0, api.ErrFull)
}

// K1, W7: a file whose names are gone stays while it is open, and no longer.
func TestFileWithoutNames(t *testing.T) {
	d := set(t)
	open(t, d, fileA, writable, 0)
	open(t, d, fileA, readOnly, 1)
	must(t, "Remove", d.forest.Remove(root, "a"))
	wantWrite(t, d, 0, "still", 5, nil)
	wantRead(t, d, 1, 9, "still", nil)
	wantNode(t, d, fileA, readOnly, 2, nil)
	for _, n := range []int{1, 0} {
		wantClose(t, d, n, nil)
		wantHeld(t, d, fileA, n+1)
	}
	wantClose(t, d, 2, nil)
	if _, err := d.forest.Of(fileA); err != api.ErrNone {
		t.Errorf("the file is there: %v", err)
	}
	wantNode(t, d, fileA, readOnly, 0, api.ErrNone)
}

// K1: an end that several have is one to the pipe; each end is dropped its own way.
func TestCloseEnds(t *testing.T) {
	for _, first := range []int{0, 1} {
		d := set(t)
		ends(t, d, 0, 1)
		wantShare(t, d, first, nil)
		wantPipeIs(t, d, 0, 0, 1, 1)
		wantClose(t, d, first, nil)
		wantPipeIs(t, d, 0, 0, 1, 1)
		wantClose(t, d, first, nil)
		wantPipeIs(t, d, 0, 0, first, 1-first)
		wantNone(t, d, first, api.ErrNone)
		wantOpen(t, d, 1)
		wantClose(t, d, 1-first, nil)
		wantPipes(t, d, 0)
		wantOpen(t, d, 0)
	}
}

// K1, Z1, Z3: a number that is none is told ahead of all else, and changes nothing.
func TestStrangeNumbers(t *testing.T) {
	d := set(t)
	ends(t, d, 0, 1)
	for n := 2; n < api.Open; n++ {
		open(t, d, fileA, writable, n)
	}
	was := state(d)
	for _, n := range strange {
		wantRefused(t, d, n, api.ErrBound)
	}
	wantSame(t, d, was)
}

// K2: a file is read and written from its place on, which goes up.
func TestReadAndWrite(t *testing.T) {
	d := set(t)
	open(t, d, fileA, writable, 0)
	wantWrite(t, d, 0, "hello", 5, nil)
	wantOf(t, d, 0, api.OnNode, fileA, 5, 1)
	wantRead(t, d, 0, 9, "", nil)
	wantSeek(t, d, 0, 1, nil)
	wantRead(t, d, 0, 3, "ell", nil)
	wantOf(t, d, 0, api.OnNode, fileA, 4, 1)
	wantWrite(t, d, 0, "p!", 2, nil)
	wantOf(t, d, 0, api.OnNode, fileA, 6, 1)
	wantBytes(t, d, fileA, "hellp!")
	wantWrite(t, d, 0, "", 0, nil)
	wantRead(t, d, 0, 0, "", nil)
	wantOf(t, d, 0, api.OnNode, fileA, 6, 1)
	wantBytes(t, d, fileB, "")
}

// K2: the place goes up by as many bytes as were read, not by as many as were wanted.
func TestReadMany(t *testing.T) {
	for _, many := range []int{0, 1, 2, 3, 4, api.MaxData, api.MaxData + 1, 1 << 32, math.MaxInt} {
		d := set(t)
		open(t, d, fileA, readOnly, 0)
		must(t, "Write", d.forest.Write(fileA, 0, "abcd"))
		wantSeek(t, d, 0, 1, nil)
		want := "bcd"[:min(many, 3)]
		wantRead(t, d, 0, many, want, nil)
		wantOf(t, d, 0, api.OnNode, fileA, 1+len(want), 1)
	}
}

// K2: the file's errors.
func TestReadBelowNought(t *testing.T) {
	d := set(t)
	open(t, d, fileA, writable, 0)
	wantWrite(t, d, 0, "abc", 3, nil)
	wantSeek(t, d, 0, 1, nil)
	was := state(d)
	wantRead(t, d, 0, -1, "", api.ErrBound)
	wantRead(t, d, 0, math.MinInt, "", api.ErrBound)
	wantSame(t, d, was)
}

// K2: a file has room for MaxData bytes; what is too much isn't written at all.
func TestWriteFull(t *testing.T) {
	d := set(t)
	open(t, d, fileA, writable, 0)
	all := strings.Repeat("0123456789", 4)
	wantWrite(t, d, 0, all+"x", 0, api.ErrFull)
	wantBytes(t, d, fileA, "")
	wantWrite(t, d, 0, all[1:], api.MaxData-1, nil)
	was := state(d)
	wantWrite(t, d, 0, "xy", 0, api.ErrFull)
	wantWrite(t, d, 0, strings.Repeat("x", 10000), 0, api.ErrFull)
	wantSame(t, d, was)
	wantWrite(t, d, 0, "z", 1, nil)
	wantBytes(t, d, fileA, all[1:]+"z")
	wantOf(t, d, 0, api.OnNode, fileA, api.MaxData, 1)
	wantWrite(t, d, 0, "x", 0, api.ErrFull)
	wantWrite(t, d, 0, "", 0, nil)
	wantRead(t, d, 0, 1, "", nil)
}

// K2: who opened a file to be read alone doesn't write, not even nothing.
func TestNotToBeWritten(t *testing.T) {
	d := set(t)
	open(t, d, fileA, readOnly, 0)
	open(t, d, fileA, writable, 1)
	wantWrite(t, d, 1, "abc", 3, nil)
	was := state(d)
	for _, s := range []string{"", "x", strings.Repeat("x", 100)} {
		wantWrite(t, d, 0, s, 0, api.ErrState)
	}
	wantSame(t, d, was)
	wantRead(t, d, 0, 9, "abc", nil)
}

// K2: who opened a file twice has two places in it.
func TestPlacesApart(t *testing.T) {
	d := set(t)
	open(t, d, fileA, writable, 0)
	open(t, d, fileA, writable, 1)
	wantWrite(t, d, 0, "abcd", 4, nil)
	wantRead(t, d, 1, 2, "ab", nil)
	wantWrite(t, d, 1, "X", 1, nil)
	wantOf(t, d, 0, api.OnNode, fileA, 4, 1)
	wantOf(t, d, 1, api.OnNode, fileA, 3, 1)
	wantBytes(t, d, fileA, "abXd")
}

// K2: a place is from 0 to MaxData, also behind the file's end: there nothing is read, and noughts stand between.
func TestSeek(t *testing.T) {
	d := set(t)
	open(t, d, fileA, writable, 0)
	wantWrite(t, d, 0, "ab", 2, nil)
	for at := range api.MaxData + 1 {
		wantSeek(t, d, 0, at, nil)
		wantOf(t, d, 0, api.OnNode, fileA, at, 1)
	}
	was := state(d)
	for _, at := range append([]int{api.MaxData + 1, api.MaxData + 2}, far...) {
		wantSeek(t, d, 0, at, api.ErrBound)
	}
	wantSame(t, d, was)
	wantSeek(t, d, 0, 4, nil)
	wantRead(t, d, 0, 9, "", nil)
	wantOf(t, d, 0, api.OnNode, fileA, 4, 1)
	wantBytes(t, d, fileA, "ab")
	wantWrite(t, d, 0, "c", 1, nil)
	wantBytes(t, d, fileA, "ab\x00\x00c")
}

// K2: a place may be sought in a file that is open to be read alone.
func TestSeekReadOnly(t *testing.T) {
	d := set(t)
	open(t, d, fileA, readOnly, 0)
	must(t, "Write", d.forest.Write(fileA, 0, "abc"))
	wantSeek(t, d, 0, 2, nil)
	wantRead(t, d, 0, 9, "c", nil)
}

// K2: a file that came to be shorter is read no further than it is.
func TestFileCut(t *testing.T) {
	d := set(t)
	open(t, d, fileA, writable, 0)
	wantWrite(t, d, 0, "abcdef", 6, nil)
	must(t, "Cut", d.forest.Cut(fileA, 2))
	wantRead(t, d, 0, 9, "", nil)
	wantOf(t, d, 0, api.OnNode, fileA, 6, 1)
	wantWrite(t, d, 0, "g", 1, nil)
	wantBytes(t, d, fileA, "ab\x00\x00\x00\x00g")
}

// K2: bytes go through a pipe; its ends have no places.
func TestThroughAPipe(t *testing.T) {
	d := set(t)
	ends(t, d, 0, 1)
	wantRead(t, d, 0, 1, "", api.ErrAgain)
	wantRead(t, d, 0, 0, "", nil)
	wantWrite(t, d, 1, "hello", 5, nil)
	wantPipeIs(t, d, 0, 5, 1, 1)
	wantRead(t, d, 0, 2, "he", nil)
	wantRead(t, d, 0, -1, "", api.ErrBound)
	wantOf(t, d, 0, api.Reading, 0, 0, 1)
	wantOf(t, d, 1, api.Writing, 0, 0, 1)
	wantWrite(t, d, 1, strings.Repeat("x", 20), api.PipeRoom-3, nil)
	wantWrite(t, d, 1, "y", 0, api.ErrAgain)
	wantWrite(t, d, 1, "", 0, nil)
	wantRead(t, d, 0, 100, "lloxxxxxxxxx", nil)
}

// K2: nobody writes any more, nobody reads any more: as long as one has an end, somebody does.
func TestEndsOfAPipe(t *testing.T) {
	d := set(t)
	ends(t, d, 0, 1)
	ends(t, d, 2, 3)
	wantShare(t, d, 1, nil)
	wantShare(t, d, 2, nil)
	wantWrite(t, d, 1, "ab", 2, nil)
	wantClose(t, d, 1, nil)
	wantClose(t, d, 2, nil)
	wantRead(t, d, 0, 9, "ab", nil)
	wantRead(t, d, 0, 9, "", api.ErrAgain)
	wantWrite(t, d, 3, "cd", 2, nil)
	wantClose(t, d, 1, nil)
	wantClose(t, d, 2, nil)
	wantRead(t, d, 0, 9, "", nil)
	wantWrite(t, d, 3, "ef", 0, api.ErrBroken)
	wantWrite(t, d, 3, "", 0, api.ErrBroken)
}

// K2, Z3: an end is used one way alone, and has no place to be sought, whatever else is wrong.
func TestWrongEnd(t *testing.T) {
	d := set(t)
	ends(t, d, 0, 1)
	wantWrite(t, d, 1, "abc", 3, nil)
	was := state(d)
	for _, x := range []int{0, 1, -1, api.MaxData, api.MaxData + 1, math.MinInt, math.MaxInt} {
		wantRead(t, d, 1, x, "", api.ErrState)
		wantSeek(t, d, 0, x, api.ErrKind)
		wantSeek(t, d, 1, x, api.ErrKind)
	}
	for _, s := range []string{"", "x", strings.Repeat("x", 100)} {
		wantWrite(t, d, 0, s, 0, api.ErrState)
	}
	wantSame(t, d, was)
	wantClose(t, d, 1, nil)
	wantWrite(t, d, 0, "x", 0, api.ErrState)
}

// Z2: two tables of one forest and one set of pipes have open files of their own.
func TestTablesApart(t *testing.T) {
	d := set(t)
	other := desk{files.New(d.forest, d.pipes), d.forest, d.pipes}
	open(t, d, fileA, writable, 0)
	open(t, other, fileA, readOnly, 0)
	wantHeld(t, d, fileA, 2)
	wantWrite(t, d, 0, "abc", 3, nil)
	wantRead(t, other, 0, 2, "ab", nil)
	wantOf(t, d, 0, api.OnNode, fileA, 3, 1)
	wantOf(t, other, 0, api.OnNode, fileA, 2, 1)
	ends(t, d, 1, 2)
	wantNone(t, other, 1, api.ErrNone)
	ends(t, other, 1, 2)
	wantOf(t, other, 1, api.Reading, 1, 0, 1)
	wantClose(t, d, 0, nil)
	wantHeld(t, d, fileA, 1)
	wantOf(t, other, 0, api.OnNode, fileA, 2, 1)
	wantOpen(t, d, 2)
	wantOpen(t, other, 3)
}

// Z2: what was read stays as it is, whatever is written behind it.
func TestReadIsTheCallers(t *testing.T) {
	d := set(t)
	open(t, d, fileA, writable, 0)
	ends(t, d, 1, 2)
	for _, n := range []int{0, 2} {
		wantWrite(t, d, n, "abc", 3, nil)
	}
	wantSeek(t, d, 0, 0, nil)
	file, _ := d.Read(0, 3)
	pipe, _ := d.Read(1, 3)
	wantSeek(t, d, 0, 0, nil)
	for _, n := range []int{0, 2} {
		wantWrite(t, d, n, "xyz", 3, nil)
	}
	if file != "abc" || pipe != "abc" {
		t.Errorf("what was read came to be %q, %q", file, pipe)
	}
}

// W7: when all is closed, nothing is left.
func TestNothingIsLeft(t *testing.T) {
	d := set(t)
	was := state(d)
	for n := 0; n < api.Open; n += 3 {
		open(t, d, fileA+n%2, writable, n)
		ends(t, d, n+1, n+2)
	}
	for n := range api.Open {
		wantShare(t, d, n, nil)
		wantClose(t, d, n, nil)
		wantClose(t, d, n, nil)
	}
	wantSame(t, d, was)
}
