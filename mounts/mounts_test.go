package mounts_test

import (
	"fmt"
	"math"
	"slices"
	"strings"
	"testing"

	"wardroom/api"
	"wardroom/mounts"
	"wardroom/tree"
)

// Numbers that are no node's and no tree's; and texts that are no path.
var (
	far         = []int{-1, -2, math.MinInt, math.MaxInt, math.MinInt32, math.MaxInt32, 1 << 32}
	strangeNode = append([]int{api.Nodes, api.Nodes + 1}, far...)
	strangeTree = append([]int{api.Trees, api.Trees + 1}, far...)
	strangePath = []string{
		"", "a", "a/b", "..", ".", "//", "/a/", "//a", "/a//b", "/a/b/", "/../", "/.", "/./a", "/a/.", "/A", "/a/B", "/a b",
		"/a ", " /a", "/a-b", "/ninebytes", "/a/ninebytes", "/\x00", "/\xff", "/ä", "/a\n", "\x00", "\\a",
		"/" + strings.Repeat("a", 59), strings.Repeat("/", 60), strings.Repeat("/a", 31), strings.Repeat("/..", 21),
		"/.." + strings.Repeat("/a", 29), strings.Repeat("/a", 10000), strings.Repeat("a", 10000),
	}
)

func wantErr(t *testing.T, what string, err, want error) {
	t.Helper()
	if err != want {
		t.Errorf("%s: %v, want %v", what, err, want)
	}
}

// must: an act that isn't refused.
func must(t *testing.T, what string, err error) {
	t.Helper()
	if err != nil {
		t.Fatalf("%s: %v", what, err)
	}
}

func at(tree, node int) api.Where { return api.Where{Tree: tree, Node: node} }

func mount(from, to api.Where) api.Mount { return api.Mount{At: from, To: to} }

func makes(t *testing.T, f *tree.Forest, n int, name string, kind, want int) {
	t.Helper()
	if kid, err := f.Make(n, name, kind); kid != want || err != nil {
		t.Fatalf("Make(%d, %q, %d): %d %v, want %d", n, name, kind, kid, err, want)
	}
}

// Places of the forest that grown makes.
var (
	root  = at(0, 0)
	a     = at(0, 3)
	b     = at(0, 4)
	file  = at(0, 5) // "f" of the root
	aa    = at(0, 6)
	ab    = at(0, 7)
	other = at(1, 1) // the root of tree 1
	x     = at(1, 8)
	xFile = at(1, 9) // "f" of x
	xy    = at(1, 10)
	bare  = at(2, 2) // the root of tree 2
)

// grown: a forest of three trees, with the places above.
func grown(t *testing.T) *tree.Forest {
	t.Helper()
	f := tree.New()
	for want := range 3 {
		if n, err := f.Plant(); n != want || err != nil {
			t.Fatalf("Plant(): %d %v", n, err)
		}
	}
	makes(t, f, root.Node, "a", api.Dir, a.Node)
	makes(t, f, root.Node, "b", api.Dir, b.Node)
	makes(t, f, root.Node, "f", api.File, file.Node)
	makes(t, f, a.Node, "a", api.Dir, aa.Node)
	makes(t, f, a.Node, "b", api.Dir, ab.Node)
	makes(t, f, other.Node, "x", api.Dir, x.Node)
	makes(t, f, x.Node, "f", api.File, xFile.Node)
	makes(t, f, x.Node, "y", api.Dir, xy.Node)
	return f
}

func table(t *testing.T, f *tree.Forest, of int) *mounts.Table {
	t.Helper()
	m, err := mounts.New(f, of)
	if m == nil || err != nil {
		t.Fatalf("New(f, %d): %v %v", of, m, err)
	}
	return m
}

// over: a grown forest, and a table whose root is that of tree 0.
func over(t *testing.T) (*tree.Forest, *mounts.Table) {
	t.Helper()
	f := grown(t)
	return f, table(t, f, 0)
}

func bind(t *testing.T, m *mounts.Table, from, to api.Where) {
	t.Helper()
	must(t, fmt.Sprintf("Bind(%v, %v)", from, to), m.Bind(from, to))
}

func wantBind(t *testing.T, m *mounts.Table, from, to api.Where, fault error) {
	t.Helper()
	wantErr(t, fmt.Sprintf("Bind(%v, %v)", from, to), m.Bind(from, to), fault)
}

func wantUnbind(t *testing.T, m *mounts.Table, from api.Where, fault error) {
	t.Helper()
	wantErr(t, fmt.Sprintf("Unbind(%v)", from), m.Unbind(from), fault)
}

func wantPlace(t *testing.T, what string, got api.Where, err error, want api.Where, fault error) {
	t.Helper()
	if got != want || err != fault {
		t.Errorf("%s: %v %v, want %v %v", what, got, err, want, fault)
	}
}

// wantWalk: where a path leads.
func wantWalk(t *testing.T, m *mounts.Table, path string, want api.Where) {
	t.Helper()
	got, err := m.Walk(path)
	wantPlace(t, fmt.Sprintf("Walk(%q)", path), got, err, want, nil)
}

func wantNoWalk(t *testing.T, m *mounts.Table, path string, fault error) {
	t.Helper()
	got, err := m.Walk(path)
	wantPlace(t, fmt.Sprintf("Walk(%q)", path), got, err, api.Where{}, fault)
}

func wantRaw(t *testing.T, m *mounts.Table, path string, want api.Where, fault error) {
	t.Helper()
	got, err := m.Raw(path)
	wantPlace(t, fmt.Sprintf("Raw(%q)", path), got, err, want, fault)
}

func wantLast(t *testing.T, m *mounts.Table, path string, want api.Where, name string, fault error) {
	t.Helper()
	got, last, err := m.Last(path)
	wantPlace(t, fmt.Sprintf("Last(%q)", path), got, err, want, fault)
	if last != name {
		t.Errorf("Last(%q): the name %q, want %q", path, last, name)
	}
}

func wantRoot(t *testing.T, m *mounts.Table, want api.Where) {
	t.Helper()
	if got := m.Root(); got != want {
		t.Errorf("Root(): %v, want %v", got, want)
	}
}

func wantMounts(t *testing.T, m *mounts.Table, want ...api.Mount) {
	t.Helper()
	if got := m.Mounts(); !slices.Equal(got, want) {
		t.Errorf("Mounts(): %v, want %v", got, want)
	}
}

// wantHeld: these nodes are held, each as often as it is named, and no others.
func wantHeld(t *testing.T, f *tree.Forest, want ...api.Where) {
	t.Helper()
	often := map[int]int{}
	for _, w := range want {
		often[w.Node]++
	}
	for n := range api.Nodes {
		if x, _ := f.Of(n); x.Held != often[n] {
			t.Errorf("the node %d is held %d times, want %d", n, x.Held, often[n])
		}
	}
}

// state: all that a table tells of itself, and how its forest is held.
func state(f *tree.Forest, m *mounts.Table) string {
	all := fmt.Sprint(m.Root(), m.Mounts())
	for _, path := range []string{"/", "/a", "/a/a", "/a/b", "/b", "/f", "/x", "/x/y", "/a/a/..", "/b/.."} {
		w, err := m.Walk(path)
		raw, _ := m.Raw(path)
		all += fmt.Sprint(";", path, w, err, raw)
	}
	for n := range api.Nodes {
		x, _ := f.Of(n)
		all += fmt.Sprint(";", n, x)
	}
	return all
}

// wantSame: calls that were refused change nothing.
func wantSame(t *testing.T, f *tree.Forest, m *mounts.Table, was string) {
	t.Helper()
	if now := state(f, m); now != was {
		t.Errorf("it changed from %s to %s", was, now)
	}
}

// H1: a new table has the root of a tree, which it holds, and no mounts.
func TestNew(t *testing.T) {
	for of, want := range []api.Where{root, other, bare} {
		f := grown(t)
		m := table(t, f, of)
		wantRoot(t, m, want)
		wantMounts(t, m)
		wantWalk(t, m, "/", want)
		wantHeld(t, f, want)
	}
}

// H1: the root's node is that which the tree's root has, whatever its number.
func TestNewOfLateTree(t *testing.T) {
	f := grown(t)
	if n, err := f.Plant(); n != 3 || err != nil {
		t.Fatalf("Plant(): %d %v", n, err)
	}
	m := table(t, f, 3)
	wantRoot(t, m, at(3, 11))
	wantHeld(t, f, at(3, 11))
}

// H1: no table without a tree, and nothing is held for it.
func TestNewRefused(t *testing.T) {
	f := grown(t)
	for _, of := range strangeTree {
		m, err := mounts.New(f, of)
		if m != nil || err != api.ErrBound {
			t.Errorf("New(f, %d): %v %v", of, m, err)
		}
	}
	if m, err := mounts.New(f, 3); m != nil || err != api.ErrNone {
		t.Errorf("New(f, 3): %v %v", m, err)
	}
	if m, err := mounts.New(tree.New(), 0); m != nil || err != api.ErrNone {
		t.Errorf("New of no trees: %v %v", m, err)
	}
	wantHeld(t, f)
}

// H1: the root, and both nodes of each mount, are held once each time.
func TestHeld(t *testing.T) {
	f, m := over(t)
	bind(t, m, a, x)
	wantHeld(t, f, root, a, x)
	bind(t, m, b, x)
	wantHeld(t, f, root, a, x, b, x)
	bind(t, m, root, a)
	wantHeld(t, f, root, a, x, b, x, root, a)
	bind(t, m, x, root)
	wantHeld(t, f, root, a, x, b, x, root, a, x, root)
	second := table(t, f, 0)
	wantHeld(t, f, root, a, x, b, x, root, a, x, root, root)
	must(t, "Unbind", m.Unbind(b))
	wantHeld(t, f, root, a, x, root, a, x, root, root)
	second.Close()
	wantHeld(t, f, root, a, x, root, a, x, root)
	m.Close()
	wantHeld(t, f)
}

// H1, G2: what a table leads to can't be removed, though it is empty.
func TestHeldStays(t *testing.T) {
	f, m := over(t)
	bind(t, m, aa, xy)
	wantErr(t, "Remove of At", f.Remove(a.Node, "a"), api.ErrBusy)
	wantErr(t, "Remove of To", f.Remove(x.Node, "y"), api.ErrBusy)
	must(t, "Remove of another one", f.Remove(a.Node, "b"))
	must(t, "Unbind", m.Unbind(aa))
	must(t, "Remove of what was At", f.Remove(a.Node, "a"))
	must(t, "Remove of what was To", f.Remove(x.Node, "y"))
}

// H1: mounts are told in the order in which they were bound.
func TestMountsOrder(t *testing.T) {
	_, m := over(t)
	bind(t, m, xy, aa)
	bind(t, m, a, x)
	bind(t, m, b, bare)
	bind(t, m, aa, ab)
	wantMounts(t, m, mount(xy, aa), mount(a, x), mount(b, bare), mount(aa, ab))
	must(t, "Unbind", m.Unbind(a))
	wantMounts(t, m, mount(xy, aa), mount(b, bare), mount(aa, ab))
	bind(t, m, a, ab)
	wantMounts(t, m, mount(xy, aa), mount(b, bare), mount(aa, ab), mount(a, ab))
	must(t, "Unbind", m.Unbind(a))
	must(t, "Unbind", m.Unbind(xy))
	wantMounts(t, m, mount(b, bare), mount(aa, ab))
}

// H1: a copy has the same, and holds it, too; from then on both go on apart.
func TestCopy(t *testing.T) {
	f, m := over(t)
	bind(t, m, a, x)
	bind(t, m, b, bare)
	c := m.Copy()
	wantRoot(t, c, root)
	wantMounts(t, c, mount(a, x), mount(b, bare))
	wantWalk(t, c, "/a/y", xy)
	wantHeld(t, f, root, a, x, b, bare, root, a, x, b, bare)
	bind(t, c, aa, ab)
	bind(t, m, ab, aa)
	wantMounts(t, c, mount(a, x), mount(b, bare), mount(aa, ab))
	wantMounts(t, m, mount(a, x), mount(b, bare), mount(ab, aa))
	must(t, "Unbind", m.Unbind(a))
	wantMounts(t, c, mount(a, x), mount(b, bare), mount(aa, ab))
	wantMounts(t, m, mount(b, bare), mount(ab, aa))
	must(t, "Pivot", c.Pivot(2))
	wantRoot(t, c, bare)
	wantMounts(t, c)
	wantRoot(t, m, root)
	wantMounts(t, m, mount(b, bare), mount(ab, aa))
	wantHeld(t, f, bare, root, b, bare, ab, aa)
}

// H1: a copy stays when the table that it was made of is closed, and the other way.
func TestCopyAndClose(t *testing.T) {
	f, m := over(t)
	bind(t, m, a, x)
	c := m.Copy()
	m.Close()
	wantHeld(t, f, root, a, x)
	wantRoot(t, c, root)
	wantMounts(t, c, mount(a, x))
	d := c.Copy()
	d.Close()
	wantHeld(t, f, root, a, x)
	wantWalk(t, c, "/a", x)
	c.Close()
	wantHeld(t, f)
}

// H1: a closed table has no mounts, and holds nothing.
func TestClose(t *testing.T) {
	f, m := over(t)
	bind(t, m, a, x)
	bind(t, m, x, a)
	m.Close()
	wantMounts(t, m)
	wantHeld(t, f)
	must(t, "Remove", f.Remove(a.Node, "a"))
}

// H1: Pivot: the root of another tree, or of the same, and no mounts.
func TestPivot(t *testing.T) {
	f, m := over(t)
	bind(t, m, a, x)
	bind(t, m, b, a)
	must(t, "Pivot", m.Pivot(1))
	wantRoot(t, m, other)
	wantMounts(t, m)
	wantHeld(t, f, other)
	wantWalk(t, m, "/x/y", xy)
	bind(t, m, x, root)
	wantWalk(t, m, "/x/a", a)
	must(t, "Pivot to its own tree", m.Pivot(1))
	wantRoot(t, m, other)
	wantMounts(t, m)
	wantHeld(t, f, other)
	must(t, "Pivot back", m.Pivot(0))
	wantRoot(t, m, root)
	wantHeld(t, f, root)
	wantWalk(t, m, "/a", a)
}

// H1: Pivot is refused as Root is, and changes nothing then.
func TestPivotRefused(t *testing.T) {
	f, m := over(t)
	bind(t, m, a, x)
	was := state(f, m)
	for _, to := range strangeTree {
		wantErr(t, fmt.Sprintf("Pivot(%d)", to), m.Pivot(to), api.ErrBound)
	}
	wantErr(t, "Pivot(3)", m.Pivot(3), api.ErrNone)
	wantSame(t, f, m, was)
}

// H2: the names of a path.
func TestSplit(t *testing.T) {
	long := strings.Repeat("/abcd", 12) // just MaxPath bytes
	for path, want := range map[string][]string{
		"/":                         nil,
		"/a":                        {"a"},
		"/a/b":                      {"a", "b"},
		"/..":                       {".."},
		"/../..":                    {"..", ".."},
		"/a/../b":                   {"a", "..", "b"},
		"/...":                      {"..."},
		"/.a/a./0.9":                {".a", "a.", "0.9"},
		"/eight.08":                 {"eight.08"},
		long:                        slices.Repeat([]string{"abcd"}, 12),
		strings.Repeat("/z", 30):    slices.Repeat([]string{"z"}, 30),
		strings.Repeat("/..", 20):   slices.Repeat([]string{".."}, 20),
		"/a" + long[:55] + "/x.":    append(slices.Concat([]string{"a"}, slices.Repeat([]string{"abcd"}, 11)), "x."),
		"/12345678/abcdefgh/zzzzzz": {"12345678", "abcdefgh", "zzzzzz"},
	} {
		if got, err := mounts.Split(path); !slices.Equal(got, want) || err != nil {
			t.Errorf("Split(%q): %q %v, want %q", path, got, err, want)
		}
	}
}

// H2: texts that are no path, to all that is given one.
func TestNoPath(t *testing.T) {
	f, m := over(t)
	bind(t, m, a, root)
	was := state(f, m)
	for _, path := range strangePath {
		if got, err := mounts.Split(path); len(got) != 0 || err != api.ErrText {
			t.Errorf("Split(%q): %q %v", path, got, err)
		}
		wantNoWalk(t, m, path, api.ErrText)
		wantRaw(t, m, path, api.Where{}, api.ErrText)
		wantLast(t, m, path, api.Where{}, "", api.ErrText)
	}
	wantSame(t, f, m, was)
}

// H2: a path of MaxPath bytes is walked, one of more is not.
func TestLongPath(t *testing.T) {
	_, m := over(t)
	bind(t, m, a, root)
	wantWalk(t, m, strings.Repeat("/a", 30), root)
	wantWalk(t, m, strings.Repeat("/a/..", 12), root)
	wantRaw(t, m, strings.Repeat("/a", 30), a, nil)
	wantLast(t, m, strings.Repeat("/a", 30), root, "a", nil)
	wantNoWalk(t, m, strings.Repeat("/a", 29)+"/..", api.ErrText)
}

// H2: without mounts a path goes by the names of the tree.
func TestWalk(t *testing.T) {
	_, m := over(t)
	wantWalk(t, m, "/", root)
	wantWalk(t, m, "/a", a)
	wantWalk(t, m, "/a/a", aa)
	wantWalk(t, m, "/a/b", ab)
	wantWalk(t, m, "/b", b)
	wantWalk(t, m, "/f", file)
	wantNoWalk(t, m, "/x", api.ErrNone)
	wantNoWalk(t, m, "/b/a", api.ErrNone)
	wantNoWalk(t, m, "/f/a", api.ErrKind)
	wantNoWalk(t, m, "/x/a", api.ErrNone)
	wantNoWalk(t, m, "/f/a/A", api.ErrText)
	must(t, "Pivot", m.Pivot(1))
	wantWalk(t, m, "/x/f", xFile)
	wantNoWalk(t, m, "/a", api.ErrNone)
}

// H2, W8: '..' leads back to where the path was; what is ahead of it must lead somewhere.
func TestBack(t *testing.T) {
	_, m := over(t)
	wantWalk(t, m, "/..", root)
	wantWalk(t, m, "/../..", root)
	wantWalk(t, m, "/../a", a)
	wantWalk(t, m, "/a/..", root)
	wantWalk(t, m, "/a/a/..", a)
	wantWalk(t, m, "/a/a/../b", ab)
	wantWalk(t, m, "/a/a/../..", root)
	wantWalk(t, m, "/a/a/../../..", root)
	wantWalk(t, m, "/a/a/../../../b", b)
	wantWalk(t, m, "/a/../a/b/../a", aa)
	wantWalk(t, m, "/f/..", root)
	wantWalk(t, m, "/f/../a", a)
	wantNoWalk(t, m, "/x/..", api.ErrNone)
	wantNoWalk(t, m, "/f/a/..", api.ErrKind)
}

// H2: what is mounted is seen at its place, by whatever way the path comes there.
func TestSeen(t *testing.T) {
	_, m := over(t)
	bind(t, m, a, x)
	wantWalk(t, m, "/a", x)
	wantWalk(t, m, "/a/y", xy)
	wantWalk(t, m, "/a/f", xFile)
	wantNoWalk(t, m, "/a/a", api.ErrNone)
	wantWalk(t, m, "/b/../a/y", xy)
	bind(t, m, xy, b)
	wantWalk(t, m, "/a/y", b)
	bind(t, m, b, aa)
	wantWalk(t, m, "/a/y", aa)
	wantWalk(t, m, "/b", aa)
	must(t, "Unbind", m.Unbind(b))
	wantWalk(t, m, "/a/y", b)
	must(t, "Unbind", m.Unbind(a))
	wantWalk(t, m, "/a/a", aa)
	wantNoWalk(t, m, "/a/y", api.ErrNone)
}

// H2: a place is a tree and a node: nothing is seen there that is mounted elsewhere.
func TestSeenThere(t *testing.T) {
	_, m := over(t)
	bind(t, m, aa, bare)
	for path, want := range map[string]api.Where{"/": root, "/a": a, "/a/a": bare, "/a/b": ab, "/b": b, "/f": file} {
		wantWalk(t, m, path, want)
	}
}

// H2: '..' leads back over a mount to where the path was, not up in the tree that is seen.
func TestBackOverMount(t *testing.T) {
	_, m := over(t)
	bind(t, m, aa, xy)
	bind(t, m, b, a)
	wantWalk(t, m, "/a/a", xy)
	wantWalk(t, m, "/a/a/..", a)
	wantWalk(t, m, "/a/a/../..", root)
	wantWalk(t, m, "/b", a)
	wantWalk(t, m, "/b/..", root)
	wantWalk(t, m, "/b/a", xy)
	wantWalk(t, m, "/b/a/..", a)
	wantWalk(t, m, "/b/a/../../f", file)
	bind(t, m, ab, root)
	wantWalk(t, m, "/a/b/a", a)
	wantWalk(t, m, "/a/b/..", a)
	wantWalk(t, m, "/a/b/a/b/..", a)
	wantWalk(t, m, "/a/b/a/../..", a)
	wantWalk(t, m, "/a/b/a/../../..", root)
}

// H2: what is mounted from the root is seen there: paths go on from it, and '..' stays at it.
func TestSeenAtRoot(t *testing.T) {
	_, m := over(t)
	bind(t, m, root, x)
	wantWalk(t, m, "/", x)
	wantWalk(t, m, "/..", x)
	wantWalk(t, m, "/y", xy)
	wantWalk(t, m, "/y/..", x)
	wantWalk(t, m, "/y/../..", x)
	wantNoWalk(t, m, "/a", api.ErrNone)
	wantRoot(t, m, root)
	wantRaw(t, m, "/", root, nil)
	wantRaw(t, m, "/y", xy, nil)
	wantLast(t, m, "/y", x, "y", nil)
	bind(t, m, xy, root)
	wantWalk(t, m, "/y", x)
	wantRaw(t, m, "/y", xy, nil)
}

// H2: as many as Mounts mounts are gone through, one behind the other.
func TestSeenFar(t *testing.T) {
	_, m := over(t)
	way := []api.Where{a, x, aa, bare, b, xy, ab}
	for i := range api.Mounts {
		bind(t, m, way[i], way[i+1])
		wantWalk(t, m, "/a", way[i+1])
	}
	wantWalk(t, m, "/b", ab)
}

// H2: mounts in a ring: after Mounts of them it is over.
func TestSeenRing(t *testing.T) {
	way := []api.Where{a, x, aa, bare, b, xy}
	for many := 2; many <= api.Mounts; many++ {
		_, m := over(t)
		for i := range many {
			bind(t, m, way[i], way[(i+1)%many])
		}
		wantWalk(t, m, "/a", way[api.Mounts%many])
		wantWalk(t, m, "/a/..", root)
		wantRaw(t, m, "/a", a, nil)
	}
}

// H2: a way into a ring counts, too.
func TestSeenIntoRing(t *testing.T) {
	_, m := over(t)
	bind(t, m, a, b)
	bind(t, m, b, x)
	bind(t, m, x, b)
	wantWalk(t, m, "/a", x) // a, b x b x b x
	wantWalk(t, m, "/b", b)
	bind(t, m, aa, a)
	must(t, "Unbind", m.Unbind(a))
	bind(t, m, root, aa)
	bind(t, m, a, x)
	wantWalk(t, m, "/", b) // root, aa a x b x b
}

// H2: Last: where what is ahead of the last name leads, whether that name leads anywhere or not.
func TestLast(t *testing.T) {
	_, m := over(t)
	wantLast(t, m, "/a", root, "a", nil)
	wantLast(t, m, "/new", root, "new", nil)
	wantLast(t, m, "/a/a", a, "a", nil)
	wantLast(t, m, "/a/new", a, "new", nil)
	wantLast(t, m, "/a/../b", root, "b", nil)
	wantLast(t, m, "/a/a/../new", a, "new", nil)
	wantLast(t, m, "/f/new", file, "new", nil)
	wantLast(t, m, "/...", root, "...", nil)
	bind(t, m, a, x)
	wantLast(t, m, "/a", root, "a", nil)
	wantLast(t, m, "/a/y", x, "y", nil)
	wantLast(t, m, "/a/y/new", xy, "new", nil)
}

// H2: Last's errors, in their order.
func TestLastRefused(t *testing.T) {
	_, m := over(t)
	for _, path := range []string{"/", "/..", "/a/..", "/../..", "/new/..", "/f/a/..", "/new/A"} {
		wantLast(t, m, path, api.Where{}, "", api.ErrText)
	}
	wantLast(t, m, "/new/a", api.Where{}, "", api.ErrNone)
	wantLast(t, m, "/a/new/a", api.Where{}, "", api.ErrNone)
	wantLast(t, m, "/f/a/a", api.Where{}, "", api.ErrKind)
}

// H2: Raw: the last name's place itself, what is ahead of it as it is seen.
func TestRaw(t *testing.T) {
	_, m := over(t)
	wantRaw(t, m, "/", root, nil)
	wantRaw(t, m, "/a", a, nil)
	wantRaw(t, m, "/f", file, nil)
	wantRaw(t, m, "/a/a/../b", ab, nil)
	bind(t, m, a, x)
	wantRaw(t, m, "/a", a, nil)
	wantRaw(t, m, "/a/y", xy, nil)
	wantRaw(t, m, "/a/f", xFile, nil)
	bind(t, m, xy, aa)
	wantRaw(t, m, "/a/y", xy, nil)
	wantRaw(t, m, "/a/y/../f", xFile, nil)
}

// H2: Raw's errors, in their order.
func TestRawRefused(t *testing.T) {
	_, m := over(t)
	for _, path := range []string{"/..", "/a/..", "/../..", "/new/.."} {
		wantRaw(t, m, path, api.Where{}, api.ErrText)
	}
	wantRaw(t, m, "/new", api.Where{}, api.ErrNone)
	wantRaw(t, m, "/new/a", api.Where{}, api.ErrNone)
	wantRaw(t, m, "/a/new", api.Where{}, api.ErrNone)
	wantRaw(t, m, "/f/a", api.Where{}, api.ErrKind)
	wantRaw(t, m, "/f/a/a", api.Where{}, api.ErrKind)
	bind(t, m, a, x)
	wantRaw(t, m, "/a/a", api.Where{}, api.ErrNone)
}

// H2: paths go by the forest as it is: a directory that is moved takes what is mounted from it along.
func TestMovedDir(t *testing.T) {
	f, m := over(t)
	bind(t, m, aa, x)
	must(t, "Move", f.Move(a.Node, "a", b.Node, "c"))
	wantNoWalk(t, m, "/a/a", api.ErrNone)
	wantWalk(t, m, "/b/c", x)
	wantRaw(t, m, "/b/c", aa, nil)
	makes(t, f, a.Node, "a", api.File, 11)
	wantWalk(t, m, "/a/a", at(0, 11))
}

// H3: what Bind refuses, in the order in which it is told: at's faults, to's, and those of both.
func TestBindRefused(t *testing.T) {
	f, m := over(t)
	bind(t, m, b, x)
	was := state(f, m)
	noNode := at(0, 20)
	wrong := []struct {
		w     api.Where
		fault error
	}{
		{at(0, api.Nodes), api.ErrBound}, {at(-1, -1), api.ErrBound},
		{noNode, api.ErrNone}, {at(9, 20), api.ErrNone},
		{file, api.ErrKind}, {at(1, file.Node), api.ErrKind}, {at(1, a.Node), api.ErrKind}, {at(-1, a.Node), api.ErrKind},
		{at(math.MaxInt, root.Node), api.ErrKind}, {at(0, xy.Node), api.ErrKind},
	}
	for _, first := range wrong {
		for _, good := range []api.Where{a, b, root} {
			wantBind(t, m, first.w, good, first.fault)
			wantBind(t, m, good, first.w, first.fault)
		}
		for _, second := range wrong {
			wantBind(t, m, first.w, second.w, first.fault)
		}
	}
	wantBind(t, m, a, a, api.ErrState)
	wantBind(t, m, b, b, api.ErrState)
	wantBind(t, m, b, x, api.ErrExist)
	wantBind(t, m, b, a, api.ErrExist)
	wantSame(t, f, m, was)
}

// H3: no more than Mounts mounts; that is told last.
func TestBindFull(t *testing.T) {
	f, m := over(t)
	way := []api.Where{root, a, b, aa, ab, x}
	for _, from := range way {
		bind(t, m, from, bare)
	}
	was := state(f, m)
	wantBind(t, m, xy, bare, api.ErrFull)
	wantBind(t, m, a, x, api.ErrExist)
	wantBind(t, m, xy, xy, api.ErrState)
	wantBind(t, m, xy, file, api.ErrKind)
	wantSame(t, f, m, was)
	c := m.Copy()
	wantBind(t, c, xy, bare, api.ErrFull)
	must(t, "Unbind", m.Unbind(b))
	bind(t, m, xy, a)
	wantBind(t, m, b, bare, api.ErrFull)
	wantBind(t, c, xy, bare, api.ErrFull)
}

// H3: mounts within one tree, between trees, from a root, to a directory above or below: all may be.
func TestBind(t *testing.T) {
	f, m := over(t)
	all := []api.Mount{mount(a, aa), mount(aa, a), mount(ab, root), mount(root, other), mount(bare, x), mount(x, bare)}
	for i, one := range all {
		bind(t, m, one.At, one.To)
		wantMounts(t, m, all[:i+1]...)
	}
	wantHeld(t, f, root, a, aa, aa, a, ab, root, root, other, bare, x, x, bare)
}

// H3: Unbind takes the mount from a place, and lets go what it held.
func TestUnbind(t *testing.T) {
	f, m := over(t)
	bind(t, m, a, x)
	bind(t, m, b, x)
	must(t, "Unbind", m.Unbind(a))
	wantMounts(t, m, mount(b, x))
	wantHeld(t, f, root, b, x)
	wantWalk(t, m, "/a", a)
	wantWalk(t, m, "/b", x)
	wantUnbind(t, m, a, api.ErrNone)
	wantUnbind(t, m, x, api.ErrNone)
	bind(t, m, a, bare)
	wantMounts(t, m, mount(b, x), mount(a, bare))
}

// H3: Unbind where nothing is mounted, whatever the place is.
func TestUnbindRefused(t *testing.T) {
	f, m := over(t)
	bind(t, m, a, x)
	was := state(f, m)
	for _, w := range []api.Where{root, b, x, file, at(0, 20), at(1, a.Node), at(-1, a.Node), at(0, -1), {}} {
		wantUnbind(t, m, w, api.ErrNone)
	}
	for _, n := range strangeNode {
		wantUnbind(t, m, at(0, n), api.ErrNone)
		wantUnbind(t, m, at(n, a.Node), api.ErrNone)
		wantUnbind(t, m, at(n, n), api.ErrNone)
	}
	wantSame(t, f, m, was)
}

// Z1: numbers that are no node's or no tree's.
func TestStrange(t *testing.T) {
	f, m := over(t)
	bind(t, m, a, x)
	was := state(f, m)
	for _, n := range strangeNode {
		for _, tree := range append([]int{0, 1, 3}, far...) {
			wantBind(t, m, at(tree, n), b, api.ErrBound)
			wantBind(t, m, b, at(tree, n), api.ErrBound)
			wantBind(t, m, at(tree, n), at(tree, n), api.ErrBound)
		}
	}
	for _, tree := range strangeTree {
		wantBind(t, m, at(tree, b.Node), aa, api.ErrKind)
		wantBind(t, m, aa, at(tree, b.Node), api.ErrKind)
		wantBind(t, m, at(tree, b.Node), at(tree, b.Node), api.ErrKind)
	}
	wantSame(t, f, m, was)
}

// Z2: lists that come out are the caller's.
func TestFresh(t *testing.T) {
	f, m := over(t)
	bind(t, m, a, x)
	bind(t, m, b, bare)
	was := state(f, m)
	first, second := m.Mounts(), m.Mounts()
	clear(first)
	_ = append(first[:1], mount(root, root))
	if !slices.Equal(second, []api.Mount{mount(a, x), mount(b, bare)}) {
		t.Errorf("one list of mounts writes into another one: %v", second)
	}
	wantSame(t, f, m, was)
	names, _ := mounts.Split("/a/b")
	again, _ := mounts.Split("/a/b")
	names[0], names[1] = "c", "d"
	if !slices.Equal(again, []string{"a", "b"}) {
		t.Errorf("one list of names writes into another one: %q", again)
	}
	kept := m.Mounts()
	must(t, "Unbind", m.Unbind(a))
	bind(t, m, aa, x)
	if !slices.Equal(kept, []api.Mount{mount(a, x), mount(b, bare)}) {
		t.Errorf("a list of mounts changed behind the caller's back: %v", kept)
	}
}

// Z2: tables over one forest have nothing in common but it; those over others nothing at all.
func TestApart(t *testing.T) {
	f, m := over(t)
	g, n := over(t)
	second := table(t, f, 1)
	bind(t, m, a, x)
	bind(t, second, x, a)
	wantMounts(t, m, mount(a, x))
	wantMounts(t, second, mount(x, a))
	wantMounts(t, n)
	wantHeld(t, f, root, other, a, x, x, a)
	wantHeld(t, g, root)
	wantWalk(t, m, "/a", x)
	wantWalk(t, second, "/x", a)
	wantWalk(t, n, "/a", a)
}
