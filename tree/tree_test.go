package tree_test

import (
	"fmt"
	"math"
	"slices"
	"strings"
	"testing"

	"wardroom/api"
	"wardroom/tree"
)

// Numbers that are no node's, no tree's and no kind; and names that may not be.
var (
	far         = []int{-1, -2, math.MinInt, math.MaxInt, math.MinInt32, math.MaxInt32, 1 << 32}
	strangeNode = append([]int{api.Nodes, api.Nodes + 1}, far...)
	strangeTree = append([]int{api.Trees, api.Trees + 1}, far...)
	strangeKind = append([]int{0, api.Dir + 1}, far...)
	strangeName = []string{
		"", ".", "..", "ninebytes", "tooooolong", "/", "a/b", "/a", "a ", " a", "a-b", "a_b", "A", "aB", "Z",
		"\x00", "a\x00", "\n", "\xff", "\x80a", "ä", "`", "{", ":", "-", strings.Repeat("a", 1000),
	}
)

func wantErr(t *testing.T, what string, err, want error) {
	t.Helper()
	if err != want {
		t.Errorf("%s: %v, want %v", what, err, want)
	}
}

// wantNum: a number and no error, or an error and 0.
func wantNum(t *testing.T, what string, got int, err error, want int, fault error) {
	t.Helper()
	if got != want || err != fault {
		t.Errorf("%s: %d %v, want %d %v", what, got, err, want, fault)
	}
}

// wantText: a text and no error, or an error and an empty text.
func wantText(t *testing.T, what, got string, err error, want string, fault error) {
	t.Helper()
	if got != want || err != fault {
		t.Errorf("%s: %q %v, want %q %v", what, got, err, want, fault)
	}
}

func plant(t *testing.T, f *tree.Forest, want int) {
	t.Helper()
	if n, err := f.Plant(); n != want || err != nil {
		t.Fatalf("Plant(): %d %v, want %d", n, err, want)
	}
}

// planted: a forest of one tree, whose root is 0.
func planted(t *testing.T) *tree.Forest {
	t.Helper()
	f := tree.New()
	plant(t, f, 0)
	return f
}

func makes(t *testing.T, f *tree.Forest, n int, name string, kind, want int) {
	t.Helper()
	if kid, err := f.Make(n, name, kind); kid != want || err != nil {
		t.Fatalf("Make(%d, %q, %d): %d %v, want %d", n, name, kind, kid, err, want)
	}
}

// must: an act that isn't refused.
func must(t *testing.T, what string, err error) {
	t.Helper()
	if err != nil {
		t.Fatalf("%s: %v", what, err)
	}
}

func wantMake(t *testing.T, f *tree.Forest, n int, name string, kind int, fault error) {
	t.Helper()
	kid, err := f.Make(n, name, kind)
	wantNum(t, fmt.Sprintf("Make(%d, %q, %d)", n, name, kind), kid, err, 0, fault)
}

func wantLink(t *testing.T, f *tree.Forest, kid, n int, name string, fault error) {
	t.Helper()
	wantErr(t, fmt.Sprintf("Link(%d, %d, %q)", kid, n, name), f.Link(kid, n, name), fault)
}

func wantRemove(t *testing.T, f *tree.Forest, n int, name string, fault error) {
	t.Helper()
	wantErr(t, fmt.Sprintf("Remove(%d, %q)", n, name), f.Remove(n, name), fault)
}

func wantMove(t *testing.T, f *tree.Forest, n int, name string, to int, other string, fault error) {
	t.Helper()
	wantErr(t, fmt.Sprintf("Move(%d, %q, %d, %q)", n, name, to, other), f.Move(n, name, to, other), fault)
}

func wantWrite(t *testing.T, f *tree.Forest, n, at int, s string, fault error) {
	t.Helper()
	wantErr(t, fmt.Sprintf("Write(%d, %d, %q)", n, at, s), f.Write(n, at, s), fault)
}

func wantCut(t *testing.T, f *tree.Forest, n, size int, fault error) {
	t.Helper()
	wantErr(t, fmt.Sprintf("Cut(%d, %d)", n, size), f.Cut(n, size), fault)
}

func wantRead(t *testing.T, f *tree.Forest, n, at, many int, want string, fault error) {
	t.Helper()
	got, err := f.Read(n, at, many)
	wantText(t, fmt.Sprintf("Read(%d, %d, %d)", n, at, many), got, err, want, fault)
}

func wantRoot(t *testing.T, f *tree.Forest, tree, want int, fault error) {
	t.Helper()
	n, err := f.Root(tree)
	wantNum(t, fmt.Sprintf("Root(%d)", tree), n, err, want, fault)
}

func wantTree(t *testing.T, f *tree.Forest, n, want int, fault error) {
	t.Helper()
	got, err := f.Tree(n)
	wantNum(t, fmt.Sprintf("Tree(%d)", n), got, err, want, fault)
}

func wantUp(t *testing.T, f *tree.Forest, n, want int, fault error) {
	t.Helper()
	got, err := f.Up(n)
	wantNum(t, fmt.Sprintf("Up(%d)", n), got, err, want, fault)
}

func wantFind(t *testing.T, f *tree.Forest, n int, name string, want int, fault error) {
	t.Helper()
	kid, err := f.Find(n, name)
	wantNum(t, fmt.Sprintf("Find(%d, %q)", n, name), kid, err, want, fault)
}

func wantOf(t *testing.T, f *tree.Forest, n int, want api.Node, fault error) {
	t.Helper()
	if got, err := f.Of(n); got != want || err != fault {
		t.Errorf("Of(%d): %+v %v, want %+v %v", n, got, err, want, fault)
	}
}

// wantNode: what is told of a node that there is.
func wantNode(t *testing.T, f *tree.Forest, n, kind, links, held, size int) {
	t.Helper()
	wantOf(t, f, n, api.Node{Kind: kind, Links: links, Held: held, Size: size}, nil)
}

func wantGone(t *testing.T, f *tree.Forest, n int) {
	t.Helper()
	wantOf(t, f, n, api.Node{}, api.ErrNone)
}

func wantList(t *testing.T, f *tree.Forest, n int, want ...string) {
	t.Helper()
	if got, err := f.List(n); !slices.Equal(got, want) || err != nil {
		t.Errorf("List(%d): %q %v, want %q", n, got, err, want)
	}
}

func wantNoList(t *testing.T, f *tree.Forest, n int, fault error) {
	t.Helper()
	if got, err := f.List(n); len(got) != 0 || err != fault {
		t.Errorf("List(%d): %q %v, want none and %v", n, got, err, fault)
	}
}

func wantNodes(t *testing.T, f *tree.Forest, want int) {
	t.Helper()
	if got := f.Nodes(); got != want {
		t.Errorf("Nodes(): %d, want %d", got, want)
	}
}

// state: all that a forest tells of itself.
func state(f *tree.Forest) string {
	all := fmt.Sprint(f.Nodes())
	for tree := range api.Trees {
		n, err := f.Root(tree)
		all += fmt.Sprint(";", n, err)
	}
	for n := range api.Nodes {
		x, err := f.Of(n)
		in, _ := f.Tree(n)
		up, _ := f.Up(n)
		bytes, _ := f.Read(n, 0, api.MaxData)
		all += fmt.Sprintf(";%d %+v %v %d %d %q", n, x, err, in, up, bytes)
		names, _ := f.List(n)
		for _, name := range names {
			kid, err := f.Find(n, name)
			all += fmt.Sprint(" ", name, kid, err)
		}
	}
	return all
}

// wantSame: calls that were refused, or that have nothing to do, change nothing.
func wantSame(t *testing.T, f *tree.Forest, was string) {
	t.Helper()
	if now := state(f); now != was {
		t.Errorf("it changed from %s to %s", was, now)
	}
}

// fill a forest of one tree so that no number is free: the root has six
// directories, of which the first four have eight files each, the fifth one.
func fill(t *testing.T, f *tree.Forest) {
	t.Helper()
	for n := 1; n <= 6; n++ {
		makes(t, f, 0, fmt.Sprint("d", n), api.Dir, n)
	}
	for n := 7; n < api.Nodes; n++ {
		makes(t, f, 1+(n-7)/api.Kids, fmt.Sprint("f", n), api.File, n)
	}
}

// crowd a directory: it has the names k0 to k7, of files.
func crowd(t *testing.T, f *tree.Forest, dir, first int) {
	t.Helper()
	for i := range api.Kids {
		makes(t, f, dir, fmt.Sprint("k", i), api.File, first+i)
	}
}

// G1: a new forest has no nodes and no trees.
func TestNew(t *testing.T) {
	f := tree.New()
	wantNodes(t, f, 0)
	for n := range api.Nodes {
		wantGone(t, f, n)
	}
	for tree := range api.Trees {
		wantRoot(t, f, tree, 0, api.ErrNone)
	}
}

// G1: which names may be.
func TestName(t *testing.T) {
	for _, s := range []string{"a", "z", "0", "9", "m5", "a.b", ".a", "a.", "...", "..a", "a..", "........", "eight.08", "12345678"} {
		if !tree.Name(s) {
			t.Errorf("Name(%q): false", s)
		}
	}
	for _, s := range strangeName {
		if tree.Name(s) {
			t.Errorf("Name(%q): true", s)
		}
	}
}

// G1: each byte, alone and behind others: just a to z, 0 to 9 and '.' may be in a name.
func TestNameBytes(t *testing.T) {
	const may = "abcdefghijklmnopqrstuvwxyz0123456789"
	for c := range 256 {
		s := string([]byte{byte(c)})
		is := strings.Contains(may, s)
		if tree.Name(s) != is {
			t.Errorf("Name(%q): %v", s, !is)
		}
		is = is || c == '.'
		for _, s := range []string{"a" + s, s + "a", "abcdefg" + s} {
			if tree.Name(s) != is {
				t.Errorf("Name(%q): %v", s, !is)
			}
		}
	}
}

// G1: trees are numbered from 0 on, each with a directory of the lowest free number as its root.
func TestPlant(t *testing.T) {
	f := planted(t)
	makes(t, f, 0, "a", api.File, 1)
	makes(t, f, 0, "b", api.File, 2)
	makes(t, f, 0, "c", api.File, 3)
	must(t, "Remove", f.Remove(0, "b"))
	for tree, root := range []int{0, 2, 4, 5} {
		if tree > 0 {
			plant(t, f, tree)
		}
		wantRoot(t, f, tree, root, nil)
		wantTree(t, f, root, tree, nil)
		wantUp(t, f, root, root, nil)
	}
	wantNode(t, f, 0, api.Dir, 1, 0, 2)
	wantNode(t, f, 5, api.Dir, 1, 0, 0)
	wantNodes(t, f, 6)
	was := state(f)
	n, err := f.Plant()
	wantNum(t, "a tree too many", n, err, 0, api.ErrFull)
	wantSame(t, f, was)
}

// G1: no tree without a number for its root.
func TestPlantFull(t *testing.T) {
	f := planted(t)
	fill(t, f)
	was := state(f)
	n, err := f.Plant()
	wantNum(t, "Plant()", n, err, 0, api.ErrFull)
	wantSame(t, f, was)
	must(t, "Remove", f.Remove(2, "f20"))
	plant(t, f, 1)
	wantRoot(t, f, 1, 20, nil)
}

// G1: which trees there are.
func TestRoot(t *testing.T) {
	f := planted(t)
	wantRoot(t, f, 0, 0, nil)
	for tree := 1; tree < api.Trees; tree++ {
		wantRoot(t, f, tree, 0, api.ErrNone)
	}
	for _, tree := range strangeTree {
		wantRoot(t, f, tree, 0, api.ErrBound)
	}
}

// G1: kind, links, held, size, tree and what a directory is in.
func TestOf(t *testing.T) {
	f := planted(t)
	plant(t, f, 1)
	makes(t, f, 1, "dir", api.Dir, 2)
	makes(t, f, 2, "sub", api.Dir, 3)
	makes(t, f, 2, "file", api.File, 4)
	must(t, "Link", f.Link(4, 3, "one"))
	must(t, "Link", f.Link(4, 3, "two"))
	must(t, "Write", f.Write(4, 2, "bytes"))
	must(t, "Hold", f.Hold(4))
	must(t, "Hold", f.Hold(4))
	must(t, "Hold", f.Hold(2))
	wantNode(t, f, 0, api.Dir, 1, 0, 0)
	wantNode(t, f, 1, api.Dir, 1, 0, 1)
	wantNode(t, f, 2, api.Dir, 1, 1, 2)
	wantNode(t, f, 3, api.Dir, 1, 0, 2)
	wantNode(t, f, 4, api.File, 3, 2, 7)
	wantNodes(t, f, 5)
	for n, in := range []int{0, 1, 1, 1, 1} {
		wantTree(t, f, n, in, nil)
	}
	for n, up := range []int{0, 1, 1, 2} {
		wantUp(t, f, n, up, nil)
	}
	wantUp(t, f, 4, 0, api.ErrKind)
}

// G2: names lead to nodes; they are told as bytes, rising.
func TestFindAndList(t *testing.T) {
	f := planted(t)
	wantList(t, f, 0)
	for i, name := range []string{"b", "a", "ab", "9", ".z", "a.", "...", "0"} {
		makes(t, f, 0, name, api.File, 1+i)
	}
	wantList(t, f, 0, "...", ".z", "0", "9", "a", "a.", "ab", "b")
	wantFind(t, f, 0, "b", 1, nil)
	wantFind(t, f, 0, ".z", 5, nil)
	wantFind(t, f, 0, "0", 8, nil)
	for _, name := range append([]string{"c", "aa", "abc", "a.b", "1"}, strangeName...) {
		wantFind(t, f, 0, name, 0, api.ErrNone)
	}
	must(t, "Remove", f.Remove(0, "b"))
	must(t, "Remove", f.Remove(0, "9"))
	wantList(t, f, 0, "...", ".z", "0", "a", "a.", "ab")
	wantFind(t, f, 0, "b", 0, api.ErrNone)
	wantFind(t, f, 0, "0", 8, nil)
}

// G2: a new node has the lowest free number, nothing in it, and is in the directory's tree.
func TestMake(t *testing.T) {
	f := planted(t)
	plant(t, f, 1)
	makes(t, f, 1, "a", api.Dir, 2)
	makes(t, f, 2, "a", api.File, 3)
	makes(t, f, 2, "b", api.Dir, 4)
	wantNode(t, f, 3, api.File, 1, 0, 0)
	wantNode(t, f, 4, api.Dir, 1, 0, 0)
	wantTree(t, f, 3, 1, nil)
	wantTree(t, f, 4, 1, nil)
	wantUp(t, f, 4, 2, nil)
	wantFind(t, f, 2, "b", 4, nil)
	must(t, "Write", f.Write(3, 0, "old"))
	must(t, "Remove", f.Remove(2, "a"))
	makes(t, f, 0, "new", api.File, 3)
	wantNode(t, f, 3, api.File, 1, 0, 0)
	wantTree(t, f, 3, 0, nil)
	must(t, "Write", f.Write(3, 3, "x"))
	wantRead(t, f, 3, 0, 9, "\x00\x00\x00x", nil)
}

// G2, Z3: why nothing is made, in the order in which it is told.
func TestMakeRefused(t *testing.T) {
	f := planted(t)
	makes(t, f, 0, "file", api.File, 1)
	makes(t, f, 0, "dir", api.Dir, 2)
	was := state(f)
	for _, kind := range strangeKind {
		for _, n := range []int{0, 1, 30, api.Nodes} {
			wantMake(t, f, n, "file", kind, api.ErrBound)
			wantMake(t, f, n, "", kind, api.ErrBound)
		}
	}
	for _, name := range append([]string{"file", "good"}, strangeName...) {
		wantMake(t, f, 1, name, api.File, api.ErrKind)
		wantMake(t, f, 3, name, api.File, api.ErrNone)
		wantMake(t, f, -1, name, api.Dir, api.ErrBound)
	}
	for _, name := range strangeName {
		wantMake(t, f, 0, name, api.Dir, api.ErrText)
	}
	wantMake(t, f, 0, "file", api.File, api.ErrExist)
	wantMake(t, f, 0, "file", api.Dir, api.ErrExist)
	wantMake(t, f, 0, "dir", api.File, api.ErrExist)
	wantSame(t, f, was)
}

// G2: a directory has no more than Kids names; what it may not have anyway is told ahead of that.
func TestMakeKids(t *testing.T) {
	f := planted(t)
	makes(t, f, 0, "dir", api.Dir, 1)
	makes(t, f, 0, "file", api.File, 2)
	crowd(t, f, 1, 3)
	was := state(f)
	wantMake(t, f, 1, "more", api.File, api.ErrFull)
	wantMake(t, f, 1, "more", api.Dir, api.ErrFull)
	wantMake(t, f, 1, "k3", api.File, api.ErrExist)
	wantMake(t, f, 1, "K3", api.File, api.ErrText)
	wantLink(t, f, 2, 1, "more", api.ErrFull)
	wantLink(t, f, 2, 1, "k3", api.ErrExist)
	wantLink(t, f, 2, 1, "..", api.ErrText)
	wantSame(t, f, was)
	must(t, "Remove", f.Remove(1, "k3"))
	makes(t, f, 1, "more", api.Dir, 6)
}

// G2: there are no more than Nodes nodes; a link needs no number.
func TestMakeNodes(t *testing.T) {
	f := planted(t)
	fill(t, f)
	wantNodes(t, f, api.Nodes)
	was := state(f)
	wantMake(t, f, 6, "more", api.File, api.ErrFull)
	wantMake(t, f, 6, "more", api.Dir, api.ErrFull)
	wantMake(t, f, 6, "..", api.Dir, api.ErrText)
	wantMake(t, f, 0, "d6", api.Dir, api.ErrExist)
	wantSame(t, f, was)
	wantLink(t, f, 30, 6, "more", nil)
	wantMove(t, f, 1, "f7", 6, "yetmore", nil)
	must(t, "Remove", f.Remove(6, "more"))
	wantNodes(t, f, api.Nodes)
	must(t, "Remove", f.Remove(6, "yetmore"))
	makes(t, f, 6, "more", api.File, 7)
}

// G2: one more name of a file; it stays while one is left.
func TestLink(t *testing.T) {
	f := planted(t)
	makes(t, f, 0, "dir", api.Dir, 1)
	makes(t, f, 0, "file", api.File, 2)
	must(t, "Write", f.Write(2, 0, "abc"))
	wantLink(t, f, 2, 1, "file", nil)
	wantLink(t, f, 2, 1, "other", nil)
	wantLink(t, f, 2, 0, "third", nil)
	wantNode(t, f, 2, api.File, 4, 0, 3)
	wantFind(t, f, 1, "other", 2, nil)
	wantList(t, f, 1, "file", "other")
	wantNodes(t, f, 3)
	for i, l := range []lead{{0, "file"}, {1, "other"}, {1, "file"}} {
		wantRemove(t, f, l.dir, l.name, nil)
		wantNode(t, f, 2, api.File, 3-i, 0, 3)
	}
	wantRemove(t, f, 0, "third", nil)
	wantGone(t, f, 2)
	wantNodes(t, f, 2)
}

// G2, Z3: why nothing is linked, in the order in which it is told.
func TestLinkRefused(t *testing.T) {
	f := planted(t)
	plant(t, f, 1)
	makes(t, f, 0, "file", api.File, 2)
	makes(t, f, 0, "dir", api.Dir, 3)
	makes(t, f, 1, "there", api.File, 4)
	was := state(f)
	for _, n := range []int{0, 2, 30, api.Nodes} {
		wantLink(t, f, 3, n, "", api.ErrKind)
		wantLink(t, f, 0, n, "new", api.ErrKind)
		wantLink(t, f, 5, n, "", api.ErrNone)
		wantLink(t, f, -1, n, "", api.ErrBound)
	}
	wantLink(t, f, 2, 4, "", api.ErrKind)
	wantLink(t, f, 2, 5, "", api.ErrNone)
	wantLink(t, f, 2, api.Nodes, "", api.ErrBound)
	for _, name := range strangeName {
		wantLink(t, f, 2, 0, name, api.ErrText)
		wantLink(t, f, 2, 1, name, api.ErrText)
	}
	wantLink(t, f, 2, 0, "file", api.ErrExist)
	wantLink(t, f, 2, 0, "dir", api.ErrExist)
	wantLink(t, f, 2, 1, "there", api.ErrExist)
	wantLink(t, f, 2, 1, "new", api.ErrKind)
	wantSame(t, f, was)
}

// G2, Z3: that the other tree's directory is full is told ahead of its being of another tree.
func TestLinkFullElsewhere(t *testing.T) {
	f := planted(t)
	plant(t, f, 1)
	makes(t, f, 0, "file", api.File, 2)
	crowd(t, f, 1, 3)
	wantLink(t, f, 2, 1, "new", api.ErrFull)
}

// G2: what no name leads to, and nobody holds, is no more.
func TestRemove(t *testing.T) {
	f := planted(t)
	makes(t, f, 0, "a", api.Dir, 1)
	makes(t, f, 1, "b", api.Dir, 2)
	makes(t, f, 1, "c", api.File, 3)
	was := state(f)
	wantRemove(t, f, 0, "a", api.ErrBusy)
	wantRemove(t, f, 0, "b", api.ErrNone)
	wantRemove(t, f, 0, "..", api.ErrNone)
	wantRemove(t, f, 1, "", api.ErrNone)
	wantRemove(t, f, 3, "c", api.ErrKind)
	wantRemove(t, f, 4, "c", api.ErrNone)
	wantRemove(t, f, -1, "c", api.ErrBound)
	wantSame(t, f, was)
	wantRemove(t, f, 1, "b", nil)
	wantGone(t, f, 2)
	wantRemove(t, f, 0, "a", api.ErrBusy)
	wantRemove(t, f, 1, "c", nil)
	wantGone(t, f, 3)
	wantRemove(t, f, 0, "a", nil)
	wantList(t, f, 0)
	wantNodes(t, f, 1)
	wantNode(t, f, 0, api.Dir, 1, 0, 0)
}

// G3: a name is moved, with what is below it.
func TestMove(t *testing.T) {
	f := planted(t)
	makes(t, f, 0, "a", api.Dir, 1)
	makes(t, f, 0, "b", api.Dir, 2)
	makes(t, f, 1, "c", api.Dir, 3)
	makes(t, f, 3, "d", api.File, 4)
	wantMove(t, f, 1, "c", 2, "e", nil)
	wantList(t, f, 1)
	wantList(t, f, 2, "e")
	wantFind(t, f, 2, "e", 3, nil)
	wantUp(t, f, 3, 2, nil)
	wantFind(t, f, 3, "d", 4, nil)
	wantNode(t, f, 3, api.Dir, 1, 0, 1)
	wantMove(t, f, 0, "a", 3, "a", nil)
	wantUp(t, f, 1, 3, nil)
	wantMove(t, f, 3, "d", 0, "d", nil)
	wantNode(t, f, 4, api.File, 1, 0, 0)
	wantFind(t, f, 0, "d", 4, nil)
	wantList(t, f, 0, "b", "d")
	wantNodes(t, f, 5)
}

// G3: within one directory a name may be changed, be that full, or the name the same.
func TestMoveWithin(t *testing.T) {
	f := planted(t)
	makes(t, f, 0, "dir", api.Dir, 1)
	crowd(t, f, 1, 2)
	wantMove(t, f, 1, "k4", 1, "new", nil)
	wantFind(t, f, 1, "new", 6, nil)
	wantFind(t, f, 1, "k4", 0, api.ErrNone)
	wantNode(t, f, 1, api.Dir, 1, 0, api.Kids)
	was := state(f)
	wantMove(t, f, 1, "k2", 1, "k2", nil)
	wantMove(t, f, 0, "dir", 0, "dir", nil)
	wantMove(t, f, 1, "k2", 1, "k3", api.ErrExist)
	wantMove(t, f, 1, "k2", 1, "k 3", api.ErrText)
	wantSame(t, f, was)
}

// G3, Z3: why nothing is moved, in the order in which it is told.
func TestMoveRefused(t *testing.T) {
	f := planted(t)
	plant(t, f, 1)
	makes(t, f, 0, "a", api.Dir, 2)
	makes(t, f, 0, "f", api.File, 3)
	makes(t, f, 1, "there", api.Dir, 4)
	makes(t, f, 2, "b", api.Dir, 5)
	makes(t, f, 5, "c", api.Dir, 6)
	was := state(f)
	for _, to := range []int{0, 1, 3, 30, api.Nodes} {
		wantMove(t, f, -1, "a", to, "", api.ErrBound)
		wantMove(t, f, 7, "a", to, "", api.ErrNone)
		wantMove(t, f, 3, "a", to, "", api.ErrKind)
		wantMove(t, f, 0, "x", to, "", api.ErrNone)
		wantMove(t, f, 0, "..", to, "", api.ErrNone)
	}
	wantMove(t, f, 0, "a", api.Nodes, "", api.ErrBound)
	wantMove(t, f, 0, "a", 7, "", api.ErrNone)
	wantMove(t, f, 0, "a", 3, "", api.ErrKind)
	wantMove(t, f, 0, "a", 1, "", api.ErrKind)
	wantMove(t, f, 0, "a", 4, "new", api.ErrKind)
	for _, to := range []int{2, 5, 6} {
		wantMove(t, f, 0, "a", to, "new", api.ErrBusy)
		wantMove(t, f, 0, "a", to, "", api.ErrBusy)
		wantMove(t, f, 0, "a", to, "b", api.ErrBusy)
	}
	wantMove(t, f, 2, "b", 5, "new", api.ErrBusy)
	for _, name := range strangeName {
		wantMove(t, f, 0, "f", 2, name, api.ErrText)
		wantMove(t, f, 0, "f", 0, name, api.ErrText)
	}
	wantMove(t, f, 0, "f", 2, "b", api.ErrExist)
	wantMove(t, f, 0, "f", 0, "a", api.ErrExist)
	wantMove(t, f, 2, "b", 0, "f", api.ErrExist)
	wantSame(t, f, was)
}

// G3: no name into a directory that has Kids names.
func TestMoveFull(t *testing.T) {
	f := planted(t)
	makes(t, f, 0, "dir", api.Dir, 1)
	makes(t, f, 0, "file", api.File, 2)
	crowd(t, f, 1, 3)
	was := state(f)
	wantMove(t, f, 0, "file", 1, "new", api.ErrFull)
	wantMove(t, f, 0, "file", 1, "k0", api.ErrExist)
	wantSame(t, f, was)
	wantMove(t, f, 1, "k0", 0, "k0", nil)
	wantMove(t, f, 0, "file", 1, "new", nil)
	wantFind(t, f, 1, "new", 2, nil)
}

// G3: what is held may be moved, and is held still; a file's other names stay.
func TestMoveHeld(t *testing.T) {
	f := planted(t)
	makes(t, f, 0, "dir", api.Dir, 1)
	makes(t, f, 0, "held", api.Dir, 2)
	makes(t, f, 0, "file", api.File, 3)
	must(t, "Link", f.Link(3, 0, "other"))
	must(t, "Hold", f.Hold(2))
	wantMove(t, f, 0, "held", 1, "new", nil)
	wantNode(t, f, 2, api.Dir, 1, 1, 0)
	wantMove(t, f, 0, "file", 1, "file", nil)
	wantNode(t, f, 3, api.File, 2, 0, 0)
	wantFind(t, f, 0, "other", 3, nil)
	// Both names lead to one file: that the new one is there counts, not where it leads.
	wantMove(t, f, 0, "other", 1, "file", api.ErrExist)
}

// G4: a file that is held stays without names, and may have new ones; it is no more when it is let.
func TestHoldFile(t *testing.T) {
	f := planted(t)
	makes(t, f, 0, "file", api.File, 1)
	must(t, "Write", f.Write(1, 0, "abc"))
	must(t, "Hold", f.Hold(1))
	must(t, "Hold", f.Hold(1))
	wantRemove(t, f, 0, "file", nil)
	wantNode(t, f, 1, api.File, 0, 2, 3)
	wantTree(t, f, 1, 0, nil)
	wantNodes(t, f, 2)
	makes(t, f, 0, "file", api.File, 2)
	wantRead(t, f, 1, 0, 9, "abc", nil)
	wantWrite(t, f, 1, 3, "d", nil)
	wantErr(t, "Let(1)", f.Let(1), nil)
	wantNode(t, f, 1, api.File, 0, 1, 4)
	wantLink(t, f, 1, 0, "back", nil)
	wantErr(t, "Let(1)", f.Let(1), nil)
	wantNode(t, f, 1, api.File, 1, 0, 4)
	wantErr(t, "Let(1)", f.Let(1), api.ErrState)
	must(t, "Hold", f.Hold(1))
	wantRemove(t, f, 0, "back", nil)
	wantErr(t, "Let(1)", f.Let(1), nil)
	wantGone(t, f, 1)
	wantErr(t, "Let(1)", f.Let(1), api.ErrNone)
	wantErr(t, "Hold(1)", f.Hold(1), api.ErrNone)
	makes(t, f, 0, "new", api.File, 1)
	wantNode(t, f, 1, api.File, 1, 0, 0)
}

// G2, G4: a directory that is held can't be removed; a root stays when it is let.
func TestHoldDir(t *testing.T) {
	f := planted(t)
	makes(t, f, 0, "dir", api.Dir, 1)
	must(t, "Hold", f.Hold(1))
	must(t, "Hold", f.Hold(0))
	was := state(f)
	wantRemove(t, f, 0, "dir", api.ErrBusy)
	wantSame(t, f, was)
	makes(t, f, 1, "in", api.File, 2)
	wantErr(t, "Let(1)", f.Let(1), nil)
	wantRemove(t, f, 0, "dir", api.ErrBusy)
	wantRemove(t, f, 1, "in", nil)
	wantRemove(t, f, 0, "dir", nil)
	wantErr(t, "Let(0)", f.Let(0), nil)
	wantErr(t, "Let(0)", f.Let(0), api.ErrState)
	wantNode(t, f, 0, api.Dir, 1, 0, 0)
	wantRoot(t, f, 0, 0, nil)
}

// G5: bytes from a place on, as many as there are.
func TestRead(t *testing.T) {
	f := planted(t)
	makes(t, f, 0, "file", api.File, 1)
	wantRead(t, f, 1, 0, 9, "", nil)
	must(t, "Write", f.Write(1, 0, "abc\x00\xffde"))
	wantRead(t, f, 1, 0, 0, "", nil)
	wantRead(t, f, 1, 0, 1, "a", nil)
	wantRead(t, f, 1, 0, 7, "abc\x00\xffde", nil)
	wantRead(t, f, 1, 0, 8, "abc\x00\xffde", nil)
	wantRead(t, f, 1, 2, 3, "c\x00\xff", nil)
	wantRead(t, f, 1, 6, 5, "e", nil)
	for _, at := range []int{7, 8, api.MaxData, api.MaxData + 1, math.MaxInt} {
		wantRead(t, f, 1, at, 5, "", nil)
		wantRead(t, f, 1, at, math.MaxInt, "", nil)
	}
	wantRead(t, f, 1, 0, math.MaxInt, "abc\x00\xffde", nil)
	wantRead(t, f, 1, 5, math.MaxInt, "de", nil)
	for _, low := range []int{-1, -2, math.MinInt} {
		wantRead(t, f, 1, low, 3, "", api.ErrBound)
		wantRead(t, f, 1, 0, low, "", api.ErrBound)
		wantRead(t, f, 1, math.MaxInt, low, "", api.ErrBound)
		wantRead(t, f, 1, low, low, "", api.ErrBound)
	}
}

// G5: bytes stand from a place on; noughts between the end and it; what is behind them stays.
func TestWrite(t *testing.T) {
	f := planted(t)
	makes(t, f, 0, "file", api.File, 1)
	wantWrite(t, f, 1, 3, "abc", nil)
	wantRead(t, f, 1, 0, 9, "\x00\x00\x00abc", nil)
	wantWrite(t, f, 1, 1, "xyz", nil)
	wantRead(t, f, 1, 0, 9, "\x00xyzbc", nil)
	wantWrite(t, f, 1, 5, "de", nil)
	wantRead(t, f, 1, 0, 9, "\x00xyzbde", nil)
	wantWrite(t, f, 1, 7, "f", nil)
	wantWrite(t, f, 1, 10, "g", nil)
	wantRead(t, f, 1, 0, 99, "\x00xyzbdef\x00\x00g", nil)
	wantNode(t, f, 1, api.File, 1, 0, 11)
}

// G5: no more than MaxData bytes; nothing is written where there is nothing to write.
func TestWriteEdges(t *testing.T) {
	whole := strings.Repeat("0123456789", api.MaxData/10)
	f := planted(t)
	makes(t, f, 0, "file", api.File, 1)
	was := state(f)
	for _, at := range []int{0, 1, api.MaxData} {
		wantWrite(t, f, 1, at, "", nil)
	}
	for _, at := range []int{api.MaxData + 1, math.MaxInt32, math.MaxInt} {
		wantWrite(t, f, 1, at, "", api.ErrFull)
		wantWrite(t, f, 1, at, "a", api.ErrFull)
		wantWrite(t, f, 1, at, whole, api.ErrFull)
	}
	wantWrite(t, f, 1, api.MaxData, "a", api.ErrFull)
	wantWrite(t, f, 1, api.MaxData-1, "ab", api.ErrFull)
	wantWrite(t, f, 1, 1, whole, api.ErrFull)
	wantWrite(t, f, 1, 0, whole+"a", api.ErrFull)
	for _, at := range []int{-1, -api.MaxData, math.MinInt} {
		wantWrite(t, f, 1, at, "", api.ErrBound)
		wantWrite(t, f, 1, at, "ab", api.ErrBound)
		wantWrite(t, f, 1, at, whole+whole, api.ErrBound)
	}
	wantSame(t, f, was)
	wantWrite(t, f, 1, api.MaxData-1, "z", nil)
	wantRead(t, f, 1, 0, 99, strings.Repeat("\x00", api.MaxData-1)+"z", nil)
	wantWrite(t, f, 1, 0, whole, nil)
	wantRead(t, f, 1, 0, 99, whole, nil)
	wantNode(t, f, 1, api.File, 1, 0, api.MaxData)
}

// G5: the first bytes stay; those that were cut off don't come back.
func TestCut(t *testing.T) {
	f := planted(t)
	makes(t, f, 0, "file", api.File, 1)
	wantCut(t, f, 1, 0, nil)
	wantCut(t, f, 1, 1, api.ErrBound)
	must(t, "Write", f.Write(1, 0, "abcdef"))
	was := state(f)
	wantCut(t, f, 1, 6, nil)
	for _, size := range []int{7, -1, api.MaxData, math.MaxInt, math.MinInt} {
		wantCut(t, f, 1, size, api.ErrBound)
	}
	wantSame(t, f, was)
	wantCut(t, f, 1, 2, nil)
	wantRead(t, f, 1, 0, 9, "ab", nil)
	wantNode(t, f, 1, api.File, 1, 0, 2)
	wantWrite(t, f, 1, 4, "x", nil)
	wantRead(t, f, 1, 0, 9, "ab\x00\x00x", nil)
	wantCut(t, f, 1, 0, nil)
	wantRead(t, f, 1, 0, 9, "", nil)
	wantWrite(t, f, 1, 1, "y", nil)
	wantRead(t, f, 1, 0, 9, "\x00y", nil)
}

// wantWrong: each call that names a node tells what is wrong with it, whatever else is wrong.
func wantWrong(t *testing.T, f *tree.Forest, n int, want error) {
	t.Helper()
	wantOf(t, f, n, api.Node{}, want)
	wantTree(t, f, n, 0, want)
	wantErr(t, fmt.Sprintf("Hold(%d)", n), f.Hold(n), want)
	wantErr(t, fmt.Sprintf("Let(%d)", n), f.Let(n), want)
	wantWrongDir(t, f, n, want)
	wantWrongFile(t, f, n, want)
}

func wantWrongDir(t *testing.T, f *tree.Forest, n int, want error) {
	t.Helper()
	wantUp(t, f, n, 0, want)
	wantNoList(t, f, n, want)
	for _, name := range []string{"a", "", ".."} {
		wantFind(t, f, n, name, 0, want)
		wantMake(t, f, n, name, api.File, want)
		wantMake(t, f, n, name, api.Dir, want)
		wantRemove(t, f, n, name, want)
		wantMove(t, f, n, name, -1, "", want)
		wantMove(t, f, 0, "dir", n, name, want)
		wantLink(t, f, 1, n, name, want)
	}
}

func wantWrongFile(t *testing.T, f *tree.Forest, n int, want error) {
	t.Helper()
	wantLink(t, f, n, 0, "new", want)
	wantLink(t, f, n, -1, "", want)
	for _, at := range []int{0, -1, math.MaxInt} {
		wantRead(t, f, n, at, at, "", want)
		wantWrite(t, f, n, at, "abc", want)
		wantWrite(t, f, n, at, "", want)
		wantCut(t, f, n, at, want)
	}
}

// G1, Z1, Z3: numbers that are no node's, or of a node of the other kind, are told, and change nothing.
func TestStrange(t *testing.T) {
	f := planted(t)
	makes(t, f, 0, "file", api.File, 1)
	makes(t, f, 0, "dir", api.Dir, 2)
	was := state(f)
	for _, n := range strangeNode {
		wantWrong(t, f, n, api.ErrBound)
	}
	for n := 3; n < api.Nodes; n++ {
		wantWrong(t, f, n, api.ErrNone)
	}
	wantWrongDir(t, f, 1, api.ErrKind)
	wantWrongFile(t, f, 0, api.ErrKind)
	wantWrongFile(t, f, 2, api.ErrKind)
	wantErr(t, "Let(1)", f.Let(1), api.ErrState)
	wantErr(t, "Let(2)", f.Let(2), api.ErrState)
	wantSame(t, f, was)
}

// Z2: a list that came out is the caller's: what he writes into it changes no forest and no other list.
func TestFresh(t *testing.T) {
	f := planted(t)
	crowd(t, f, 0, 1)
	was := state(f)
	one, _ := f.List(0)
	two, _ := f.List(0)
	one = one[:cap(one)]
	for i := range one {
		one[i] = "mine"
	}
	if slices.Contains(two, "mine") {
		t.Errorf("two lists share memory: %q", two)
	}
	wantSame(t, f, was)
}

// Z2: forests know nothing of each other.
func TestApart(t *testing.T) {
	f, other := planted(t), planted(t)
	was := state(other)
	makes(t, f, 0, "file", api.File, 1)
	must(t, "Write", f.Write(1, 0, "abc"))
	must(t, "Hold", f.Hold(0))
	plant(t, f, 1)
	wantSame(t, other, was)
}
