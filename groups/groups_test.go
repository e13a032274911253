package groups_test

import (
	"math"
	"slices"
	"testing"

	"wardroom/api"
	"wardroom/groups"
)

// strange: numbers that are no group's.
var strange = []int{-1, -2, api.Groups, api.Groups + 1, math.MinInt, math.MaxInt, math.MinInt32, math.MaxInt32, 1 << 32}

// bad: amounts that can't be charged; each has one that is out of its bounds.
var bad = [][2]int{
	{-1, 0}, {api.Procs + 1, 0}, {0, -1}, {0, api.Frames + 1},
	{math.MinInt, 0}, {math.MaxInt, 0}, {0, math.MinInt}, {0, math.MaxInt}, {math.MaxInt, math.MaxInt},
}

func add(t *testing.T, g *groups.Tree, parent, want int) {
	t.Helper()
	if n, err := g.Add(parent); n != want || err != nil {
		t.Fatalf("Add(%d): %d %v, want %d", parent, n, err, want)
	}
}

func wantErr(t *testing.T, what string, err, want error) {
	t.Helper()
	if err != want {
		t.Errorf("%s: %v, want %v", what, err, want)
	}
}

func wantAdd(t *testing.T, g *groups.Tree, parent int, want error) {
	t.Helper()
	if n, err := g.Add(parent); n != 0 || err != want {
		t.Errorf("Add(%d): %d %v, want 0 %v", parent, n, err, want)
	}
}

func wantGroup(t *testing.T, g *groups.Tree, n int, want api.Group) {
	t.Helper()
	if got, err := g.Of(n); got != want || err != nil {
		t.Errorf("Of(%d): %v %v, want %v", n, got, err, want)
	}
}

// wantIn: what is charged to a group and to all below it.
func wantIn(t *testing.T, g *groups.Tree, n, procs, pages int) {
	t.Helper()
	if got, err := g.Of(n); got.Procs != procs || got.Pages != pages || err != nil {
		t.Errorf("Of(%d): %d procs, %d pages, %v, want %d, %d", n, got.Procs, got.Pages, err, procs, pages)
	}
}

func wantLacks(t *testing.T, g *groups.Tree, n, procs, pages, want int, is bool) {
	t.Helper()
	if got, ok := g.Lacks(n, procs, pages); got != want || ok != is {
		t.Errorf("Lacks(%d, %d, %d): %d %v, want %d %v", n, procs, pages, got, ok, want, is)
	}
}

func wantAll(t *testing.T, g *groups.Tree, want ...int) {
	t.Helper()
	if got := g.All(); !slices.Equal(got, want) {
		t.Errorf("All(): %v, want %v", got, want)
	}
}

// state: all that a tree tells of itself.
func state(t *testing.T, g *groups.Tree) []api.Group {
	t.Helper()
	var all []api.Group
	for n := range api.Groups {
		of, err := g.Of(n)
		if is := slices.Contains(g.All(), n); is != (err == nil) {
			t.Errorf("Of(%d): %v, but All(): %v", n, err, g.All())
		}
		all = append(all, of)
	}
	return all
}

// row: 0, 1 below 0, 2 below 1, 3 below 2; and 4 below 0, 5 below 1.
func row(t *testing.T) *groups.Tree {
	t.Helper()
	g := groups.New()
	for n, parent := range []int{0, 1, 2, 0, 1} {
		add(t, g, parent, n+1)
	}
	return g
}

// B1: at first there is the root alone, without limits.
func TestNew(t *testing.T) {
	g := groups.New()
	wantAll(t, g, 0)
	wantGroup(t, g, 0, api.Group{Parent: -1, MaxProcs: -1, MaxPages: -1})
	for n := 1; n < api.Groups; n++ {
		if of, err := g.Of(n); of != (api.Group{}) || err != api.ErrNone {
			t.Errorf("Of(%d): %v %v, want ErrNone", n, of, err)
		}
	}
}

// B1: a new group has the lowest free number, no limits, and its parent.
func TestAdd(t *testing.T) {
	g := row(t)
	wantAll(t, g, 0, 1, 2, 3, 4, 5)
	wantGroup(t, g, 3, api.Group{Parent: 2, MaxProcs: -1, MaxPages: -1})
	wantErr(t, "Limit", g.Limit(4, 3, 3), nil)
	wantErr(t, "Remove(4)", g.Remove(4), nil)
	wantErr(t, "Remove(3)", g.Remove(3), nil)
	wantAll(t, g, 0, 1, 2, 5)
	add(t, g, 5, 3)
	add(t, g, 2, 4)
	add(t, g, 0, 6)
	wantGroup(t, g, 3, api.Group{Parent: 5, MaxProcs: -1, MaxPages: -1})
	wantGroup(t, g, 4, api.Group{Parent: 2, MaxProcs: -1, MaxPages: -1})
}

// B1: Deep groups may be one below the other, the root counted; Groups in all; deep is told ahead of full.
func TestAddDeepAndFull(t *testing.T) {
	g := groups.New()
	for n := range api.Deep - 1 {
		add(t, g, n, n+1)
	}
	wantAdd(t, g, api.Deep-1, api.ErrDeep)
	for n := api.Deep; n < api.Groups; n++ {
		add(t, g, 0, n)
	}
	wantAdd(t, g, 0, api.ErrFull)
	wantAdd(t, g, api.Groups-1, api.ErrFull)
	wantAdd(t, g, api.Deep-1, api.ErrDeep)
	wantErr(t, "Remove", g.Remove(api.Groups-2), nil)
	wantAdd(t, g, api.Groups-2, api.ErrNone)
	add(t, g, 0, api.Groups-2)
}

// B1: what is busy stays: the root, who has procs, who has pages, who has a group below it.
func TestRemove(t *testing.T) {
	g := groups.New()
	wantErr(t, "Remove of the root", g.Remove(0), api.ErrBusy)
	add(t, g, 0, 1)
	add(t, g, 1, 2)
	wantErr(t, "Remove above another one", g.Remove(1), api.ErrBusy)
	for _, a := range [][2]int{{1, 0}, {0, 1}} {
		wantErr(t, "Charge", g.Charge(2, a[0], a[1]), nil)
		wantErr(t, "Remove of one that has something", g.Remove(2), api.ErrBusy)
		wantErr(t, "Uncharge", g.Uncharge(2, a[0], a[1]), nil)
	}
	wantErr(t, "Remove", g.Remove(2), nil)
	wantErr(t, "Remove again", g.Remove(2), api.ErrNone)
	wantErr(t, "Remove", g.Remove(1), nil)
	wantErr(t, "Remove of the root", g.Remove(0), api.ErrBusy)
	wantAll(t, g, 0)
}

// B1: who is under whom.
func TestUnder(t *testing.T) {
	g := row(t)
	under := [][2]int{{0, 0}, {1, 0}, {1, 1}, {2, 0}, {2, 1}, {2, 2}, {3, 0}, {3, 1}, {3, 2}, {3, 3}, {4, 0}, {4, 4}, {5, 0}, {5, 1}, {5, 5}}
	numbers := append([]int{0, 1, 2, 3, 4, 5, 6, api.Groups - 1}, strange...)
	for _, n := range numbers {
		for _, other := range numbers {
			want := slices.Contains(under, [2]int{n, other})
			if got := g.Under(n, other); got != want {
				t.Errorf("Under(%d, %d): %v, want %v", n, other, got, want)
			}
		}
	}
}

// B2: the bounds of limits, and that what is in a group stays.
func TestLimit(t *testing.T) {
	g := row(t)
	wantErr(t, "Charge", g.Charge(2, 3, 4), nil)
	for _, l := range [][2]int{{-1, -1}, {api.Procs, api.Frames}, {0, 0}, {-1, 5}, {5, -1}, {2, 3}} {
		wantErr(t, "Limit", g.Limit(1, l[0], l[1]), nil)
		wantGroup(t, g, 1, api.Group{Parent: 0, MaxProcs: l[0], MaxPages: l[1], Procs: 3, Pages: 4})
	}
	for _, l := range [][2]int{{-2, 0}, {api.Procs + 1, 0}, {0, -2}, {0, api.Frames + 1}, {math.MinInt, 0}, {math.MaxInt, 0}, {0, math.MinInt}, {0, math.MaxInt}} {
		wantErr(t, "Limit out of bounds", g.Limit(1, l[0], l[1]), api.ErrBound)
		wantGroup(t, g, 1, api.Group{Parent: 0, MaxProcs: 2, MaxPages: 3, Procs: 3, Pages: 4})
	}
	wantErr(t, "Limit of the root", g.Limit(0, 4, 4), nil)
	wantErr(t, "Charge", g.Charge(4, 2, 0), api.ErrLimit)
	wantErr(t, "Charge", g.Charge(4, 1, 0), nil)
}

// B2: what is charged counts in all above, not beside.
func TestChargeGoesUp(t *testing.T) {
	g := row(t)
	wantErr(t, "Charge", g.Charge(3, 2, 5), nil)
	wantErr(t, "Charge", g.Charge(1, 1, 0), nil)
	wantErr(t, "Charge", g.Charge(5, 0, api.Frames), nil)
	wantErr(t, "Charge", g.Charge(4, api.Procs, 0), nil)
	wantErr(t, "Charge of nothing", g.Charge(2, 0, 0), nil)
	wantIn(t, g, 3, 2, 5)
	wantIn(t, g, 2, 2, 5)
	wantIn(t, g, 5, 0, api.Frames)
	wantIn(t, g, 1, 3, 5+api.Frames)
	wantIn(t, g, 4, api.Procs, 0)
	wantIn(t, g, 0, 3+api.Procs, 5+api.Frames)
}

// B2: a limit holds for all below it; just what is charged of is held against it.
func TestChargeLimit(t *testing.T) {
	g := row(t)
	wantErr(t, "Limit", g.Limit(1, 3, 6), nil)
	wantErr(t, "Charge", g.Charge(3, 2, 5), nil)
	before := state(t, g)
	wantErr(t, "Charge of procs", g.Charge(2, 2, 0), api.ErrLimit)
	wantErr(t, "Charge of pages", g.Charge(5, 0, 2), api.ErrLimit)
	wantErr(t, "Charge of both, one passes", g.Charge(1, 1, 2), api.ErrLimit)
	wantErr(t, "Charge of both, one passes", g.Charge(1, 2, 1), api.ErrLimit)
	if !slices.Equal(before, state(t, g)) {
		t.Errorf("a Charge that was refused changed: %v to %v", before, state(t, g))
	}
	wantErr(t, "Charge up to the limit", g.Charge(5, 1, 1), nil)
	wantErr(t, "Charge beside", g.Charge(4, 9, 9), nil)
	wantErr(t, "Limit below what is there", g.Limit(1, 0, 6), nil)
	wantErr(t, "Charge of nothing", g.Charge(3, 0, 0), nil)
	wantErr(t, "Charge of no procs", g.Charge(3, 0, 1), api.ErrLimit)
	wantErr(t, "Limit", g.Limit(1, 0, 7), nil)
	wantErr(t, "Charge of pages alone, procs being too many", g.Charge(3, 0, 1), nil)
	wantErr(t, "Limit", g.Limit(1, 4, 0), nil)
	wantErr(t, "Charge of procs alone, pages being too many", g.Charge(3, 1, 0), nil)
}

// B2: only what is charged to the group itself can be uncharged.
func TestUncharge(t *testing.T) {
	g := row(t)
	wantErr(t, "Charge", g.Charge(3, 2, 5), nil)
	wantErr(t, "Charge", g.Charge(2, 1, 1), nil)
	before := state(t, g)
	wantErr(t, "Uncharge of what is below", g.Uncharge(1, 1, 0), api.ErrState)
	wantErr(t, "Uncharge of what is below", g.Uncharge(2, 2, 0), api.ErrState)
	wantErr(t, "Uncharge of what is below", g.Uncharge(2, 0, 2), api.ErrState)
	wantErr(t, "Uncharge of too many procs", g.Uncharge(3, 3, 0), api.ErrState)
	wantErr(t, "Uncharge of too many pages", g.Uncharge(3, 2, 6), api.ErrState)
	if !slices.Equal(before, state(t, g)) {
		t.Errorf("an Uncharge that was refused changed: %v to %v", before, state(t, g))
	}
	wantErr(t, "Uncharge of nothing", g.Uncharge(1, 0, 0), nil)
	wantErr(t, "Uncharge", g.Uncharge(3, 2, 4), nil)
	wantIn(t, g, 3, 0, 1)
	wantIn(t, g, 2, 1, 2)
	wantIn(t, g, 1, 1, 2)
	wantIn(t, g, 0, 1, 2)
	wantErr(t, "Uncharge", g.Uncharge(3, 0, 1), nil)
	wantErr(t, "Uncharge", g.Uncharge(2, 1, 1), nil)
	wantIn(t, g, 0, 0, 0)
}

// B3: the first group on the way up that lacks room.
func TestLacks(t *testing.T) {
	g := row(t)
	wantLacks(t, g, 3, api.Procs, api.Frames, 0, false)
	wantErr(t, "Limit", g.Limit(0, 2, -1), nil)
	wantErr(t, "Limit", g.Limit(2, 3, 4), nil)
	wantLacks(t, g, 3, 2, 4, 0, false)
	wantLacks(t, g, 3, 3, 4, 0, true)
	wantLacks(t, g, 3, 4, 0, 2, true)
	wantLacks(t, g, 3, 0, 5, 2, true)
	wantLacks(t, g, 2, 4, 5, 2, true)
	wantLacks(t, g, 1, 0, 64, 0, false)
	wantErr(t, "Limit", g.Limit(3, 0, 0), nil)
	wantLacks(t, g, 3, 4, 0, 3, true)
	wantLacks(t, g, 3, 0, 0, 0, false)
	wantErr(t, "Charge", g.Charge(2, 2, 4), nil)
	wantLacks(t, g, 2, 0, 1, 2, true)
	wantLacks(t, g, 2, 1, 0, 0, true)
	wantErr(t, "Limit below what is there", g.Limit(2, 0, 4), nil)
	wantLacks(t, g, 2, 1, 0, 2, true)
	wantLacks(t, g, 2, 0, 0, 0, false)
	wantIn(t, g, 0, 2, 4)
}

// B3: where Charge would answer another error, nobody lacks anything.
func TestLacksOfWrong(t *testing.T) {
	g := row(t)
	for n := range 6 {
		wantErr(t, "Limit", g.Limit(n, 0, 0), nil)
		for _, a := range bad {
			wantLacks(t, g, n, a[0], a[1], 0, false)
		}
		wantLacks(t, g, n, api.Procs, api.Frames, n, true)
	}
	for _, n := range append([]int{6, api.Groups - 1}, strange...) {
		wantLacks(t, g, n, 1, 1, 0, false)
	}
}

// B3: what is moved counts in the one, and no more in the other one.
func TestMove(t *testing.T) {
	g := row(t)
	wantErr(t, "Charge", g.Charge(3, 2, 5), nil)
	wantErr(t, "Move", g.Move(3, 4, 1, 2), nil)
	wantIn(t, g, 3, 1, 3)
	wantIn(t, g, 1, 1, 3)
	wantIn(t, g, 4, 1, 2)
	wantIn(t, g, 0, 2, 5)
	wantErr(t, "Move to one above", g.Move(3, 1, 1, 3), nil)
	wantIn(t, g, 3, 0, 0)
	wantIn(t, g, 1, 1, 3)
	wantErr(t, "Uncharge of what was moved", g.Uncharge(3, 1, 0), api.ErrState)
	wantErr(t, "Move to the same", g.Move(1, 1, 1, 3), nil)
	wantErr(t, "Move of nothing", g.Move(5, 2, 0, 0), nil)
	wantErr(t, "Uncharge of what was moved", g.Uncharge(1, 1, 3), nil)
	wantIn(t, g, 0, 1, 2)
}

// B3: where both have the same group above them, its limit does not stand in the way; that of the other one does.
func TestMoveLimit(t *testing.T) {
	g := row(t)
	wantErr(t, "Charge", g.Charge(3, 2, 5), nil)
	wantErr(t, "Limit", g.Limit(1, 2, 5), nil)
	wantErr(t, "Limit", g.Limit(5, 1, 4), nil)
	wantErr(t, "Limit", g.Limit(4, 2, 4), nil)
	before := state(t, g)
	wantErr(t, "Move of too many procs", g.Move(3, 5, 2, 0), api.ErrLimit)
	wantErr(t, "Move of too many pages", g.Move(3, 5, 0, 5), api.ErrLimit)
	wantErr(t, "Move of too many pages", g.Move(3, 4, 2, 5), api.ErrLimit)
	if !slices.Equal(before, state(t, g)) {
		t.Errorf("a Move that was refused changed: %v to %v", before, state(t, g))
	}
	wantErr(t, "Move below the same full group", g.Move(3, 5, 1, 4), nil)
	wantErr(t, "Move to the same", g.Move(5, 5, 1, 4), nil)
	wantIn(t, g, 1, 2, 5)
	wantErr(t, "Limit below what is there", g.Limit(1, 1, -1), nil)
	wantErr(t, "Move that leaves too much above", g.Move(5, 3, 1, 0), api.ErrLimit)
	wantErr(t, "Move to the same, with too much above", g.Move(5, 5, 1, 0), api.ErrLimit)
	wantErr(t, "Move of pages alone", g.Move(5, 3, 0, 4), nil)
	wantErr(t, "Move out", g.Move(5, 0, 1, 0), nil)
	wantIn(t, g, 0, 2, 5)
}

// B3, Z3: of several errors that of to is first, then from's, the amount's, what is not there, the limit.
func TestMoveErrors(t *testing.T) {
	g := row(t)
	wantErr(t, "Limit", g.Limit(4, 0, 0), nil)
	wantErr(t, "Charge", g.Charge(3, 1, 1), nil)
	before := state(t, g)
	for _, c := range []struct {
		from, to, procs, pages int
		want                   error
	}{
		{6, -1, 1, 1, api.ErrBound},
		{6, api.Groups, 1, 1, api.ErrBound},
		{-1, 6, 1, 1, api.ErrNone},
		{3, 6, -1, 1, api.ErrNone},
		{-1, 4, 1, 1, api.ErrBound},
		{6, 4, -1, 1, api.ErrNone},
		{3, 4, -1, 1, api.ErrBound},
		{3, 4, 2, api.Frames + 1, api.ErrBound},
		{3, 4, 2, 0, api.ErrState},
		{3, 4, 0, 2, api.ErrState},
		{2, 4, 1, 0, api.ErrState},
		{3, 4, 1, 0, api.ErrLimit},
	} {
		wantErr(t, "Move", g.Move(c.from, c.to, c.procs, c.pages), c.want)
	}
	if !slices.Equal(before, state(t, g)) {
		t.Errorf("a Move that was refused changed: %v to %v", before, state(t, g))
	}
}

// wrongCalls: the errors of all calls that name the group n, but for Move, whose other group is the root.
func wrongCalls(t *testing.T, g *groups.Tree, n, procs, pages int) []error {
	t.Helper()
	of, err := g.Of(n)
	if of != (api.Group{}) {
		t.Errorf("Of(%d): %v with an error", n, of)
	}
	k, err2 := g.Add(n)
	if k != 0 {
		t.Errorf("Add(%d): %d with an error", n, k)
	}
	return []error{err, err2, g.Remove(n), g.Limit(n, procs, pages), g.Charge(n, procs, pages),
		g.Uncharge(n, procs, pages), g.Move(n, 0, procs, pages), g.Move(0, n, procs, pages)}
}

// B1, Z1, Z3: what is wrong with a group's number is told first, bare, with zero values; nothing is changed.
func TestWrongGroups(t *testing.T) {
	g := row(t)
	before := state(t, g)
	for _, a := range append([][2]int{{0, 0}, {1, 1}}, bad...) {
		for _, n := range strange {
			for i, err := range wrongCalls(t, g, n, a[0], a[1]) {
				if err != api.ErrBound {
					t.Errorf("call %d of %d: %v, want ErrBound", i, n, err)
				}
			}
		}
		for n := 6; n < api.Groups; n++ {
			for i, err := range wrongCalls(t, g, n, a[0], a[1]) {
				if err != api.ErrNone {
					t.Errorf("call %d of %d: %v, want ErrNone", i, n, err)
				}
			}
		}
	}
	if !slices.Equal(before, state(t, g)) {
		t.Errorf("wrong calls changed: %v to %v", before, state(t, g))
	}
}

// B2, Z1, Z3: amounts out of bounds are told ahead of limits and of what is not there; nothing is changed.
func TestWrongAmounts(t *testing.T) {
	g := row(t)
	wantErr(t, "Charge", g.Charge(2, 3, 3), nil)
	wantErr(t, "Limit", g.Limit(2, 0, 0), nil)
	before := state(t, g)
	for _, a := range bad {
		wantErr(t, "Charge", g.Charge(2, a[0], a[1]), api.ErrBound)
		wantErr(t, "Uncharge", g.Uncharge(2, a[0], a[1]), api.ErrBound)
		wantErr(t, "Move", g.Move(2, 4, a[0], a[1]), api.ErrBound)
	}
	if !slices.Equal(before, state(t, g)) {
		t.Errorf("wrong amounts changed: %v to %v", before, state(t, g))
	}
}

// Z2: a list that came out is the caller's; trees have nothing in common.
func TestApart(t *testing.T) {
	g, h := row(t), groups.New()
	one, two := g.All(), g.All()
	for i := range one {
		one[i] = 7
	}
	_ = append(one[:1], 8, 8)
	if want := []int{0, 1, 2, 3, 4, 5}; !slices.Equal(two, want) {
		t.Errorf("a list changed with another one: %v", two)
	}
	wantAll(t, g, 0, 1, 2, 3, 4, 5)
	wantErr(t, "Remove", g.Remove(5), nil)
	if want := []int{0, 1, 2, 3, 4, 5}; !slices.Equal(two, want) {
		t.Errorf("a list changed with the tree: %v", two)
	}
	wantErr(t, "Charge", g.Charge(0, 1, 1), nil)
	wantAll(t, h, 0)
	wantIn(t, h, 0, 0, 0)
}
