package buddy_test

import (
	"fmt"
	"math"
	"slices"
	"testing"

	"wardroom/api"
	"wardroom/buddy"
)

const top = api.Orders - 1

// Numbers that are no order, and no frame.
var (
	far          = []int{-1, -2, math.MinInt, math.MaxInt, math.MinInt32, math.MaxInt32, 1 << 32}
	strangeOrder = append([]int{api.Orders, api.Orders + 1, api.Frames}, far...)
	strangeFrame = append([]int{api.Frames, api.Frames + 1, 2 * api.Frames}, far...)
)

func wantErr(t *testing.T, what string, err, want error) {
	t.Helper()
	if err != want {
		t.Errorf("%s: %v, want %v", what, err, want)
	}
}

// wantNum: a number and no error, or an error and 0.
func wantNum(t *testing.T, what string, got int, err error, want int, fault error) {
	t.Helper()
	if got != want || err != fault {
		t.Errorf("%s: %d %v, want %d %v", what, got, err, want, fault)
	}
}

func take(t *testing.T, p *buddy.Pool, order, want int) {
	t.Helper()
	if at, err := p.Take(order); at != want || err != nil {
		t.Fatalf("Take(%d): %d %v, want %d", order, at, err, want)
	}
}

func wantNoTake(t *testing.T, p *buddy.Pool, order int, want error) {
	t.Helper()
	at, err := p.Take(order)
	wantNum(t, fmt.Sprintf("Take(%d)", order), at, err, 0, want)
}

func give(t *testing.T, p *buddy.Pool, all ...int) {
	t.Helper()
	for _, at := range all {
		if err := p.Give(at); err != nil {
			t.Fatalf("Give(%d): %v", at, err)
		}
	}
}

func wantOrder(t *testing.T, p *buddy.Pool, at, want int, fault error) {
	t.Helper()
	order, err := p.Order(at)
	wantNum(t, fmt.Sprintf("Order(%d)", at), order, err, want, fault)
}

func wantFree(t *testing.T, p *buddy.Pool, order int, want ...int) {
	t.Helper()
	if got, err := p.Free(order); !slices.Equal(got, want) || err != nil {
		t.Errorf("Free(%d): %v %v, want %v", order, got, err, want)
	}
}

func wantNoFree(t *testing.T, p *buddy.Pool, order int, want error) {
	t.Helper()
	if got, err := p.Free(order); len(got) != 0 || err != want {
		t.Errorf("Free(%d): %v %v, want none and %v", order, got, err, want)
	}
}

func wantLeft(t *testing.T, p *buddy.Pool, want int) {
	t.Helper()
	if got := p.Left(); got != want {
		t.Errorf("Left(): %d, want %d", got, want)
	}
}

// wantWhole: all frames are one free block.
func wantWhole(t *testing.T, p *buddy.Pool) {
	t.Helper()
	for order := range top {
		wantFree(t, p, order)
	}
	wantFree(t, p, top, 0)
	wantLeft(t, p, api.Frames)
	for at := range api.Frames {
		wantOrder(t, p, at, 0, api.ErrNone)
	}
}

// state: all that a pool tells of itself.
func state(p *buddy.Pool) string {
	all := fmt.Sprint(p.Left())
	for order := range api.Orders {
		free, err := p.Free(order)
		all += fmt.Sprint(";", free, err)
	}
	for at := range api.Frames {
		order, err := p.Order(at)
		all += fmt.Sprint(" ", order, err)
	}
	return all
}

// E1: at the beginning all frames are one free block.
func TestNew(t *testing.T) {
	wantWhole(t, buddy.New())
}

// E1: a greater block is parted till it is of the order; the lower half is gone on with, the upper ones stay free.
func TestTakeParts(t *testing.T) {
	for order := range api.Orders {
		p := buddy.New()
		take(t, p, order, 0)
		wantOrder(t, p, 0, order, nil)
		wantLeft(t, p, api.Frames-1<<order)
		for o := range api.Orders {
			if o >= order && o < top {
				wantFree(t, p, o, 1<<o)
			} else {
				wantFree(t, p, o)
			}
		}
	}
}

// E1: a free block of the order itself is taken as it is, also if a greater one is lower.
func TestTakeLeastOrder(t *testing.T) {
	p := buddy.New()
	take(t, p, 2, 0)
	take(t, p, 1, 4)
	take(t, p, 1, 6)
	give(t, p, 0, 6)
	wantFree(t, p, 1, 6)
	wantFree(t, p, 2, 0)
	take(t, p, 1, 6)
	wantFree(t, p, 2, 0)
	take(t, p, 1, 0)
	wantFree(t, p, 1, 2)
	wantFree(t, p, 2)
}

// E1: of blocks that are too great the one of the least order is parted, also if a greater one is lower.
func TestTakePartsLeastOrder(t *testing.T) {
	p := buddy.New()
	take(t, p, 4, 0)
	take(t, p, 3, 16)
	take(t, p, 3, 24)
	take(t, p, 5, 32)
	give(t, p, 0, 24)
	take(t, p, 0, 24)
	wantFree(t, p, 0, 25)
	wantFree(t, p, 1, 26)
	wantFree(t, p, 2, 28)
	wantFree(t, p, 3)
	wantFree(t, p, 4, 0)
}

// E1: of several blocks of one order the lowest one is taken, whichever was given first.
func TestTakeLowest(t *testing.T) {
	for _, given := range [][]int{{16, 48}, {48, 16}} {
		p := buddy.New()
		for at := 0; at < api.Frames; at += 16 {
			take(t, p, 4, at)
		}
		give(t, p, given...)
		wantFree(t, p, 4, 16, 48)
		take(t, p, 4, 16)
		take(t, p, 2, 48)
		wantFree(t, p, 2, 52)
		wantFree(t, p, 3, 56)
	}
}

// E1: blocks of each order begin at the multiples of their size, till none is left; ErrFull.
func TestTakeAll(t *testing.T) {
	for order := range api.Orders {
		p := buddy.New()
		for at := 0; at < api.Frames; at += 1 << order {
			wantLeft(t, p, api.Frames-at)
			take(t, p, order, at)
		}
		wantLeft(t, p, 0)
		before := state(p)
		for o := range api.Orders {
			wantFree(t, p, o)
			wantNoTake(t, p, o, api.ErrFull)
		}
		if state(p) != before {
			t.Errorf("order %d: a refused Take changed the pool", order)
		}
	}
}

// E1: ErrFull also while frames are left, if no block is great enough.
func TestTakeTorn(t *testing.T) {
	p := buddy.New()
	for at := range api.Frames {
		take(t, p, 0, at)
	}
	for at := 0; at < api.Frames; at += 2 {
		give(t, p, at)
	}
	wantLeft(t, p, api.Frames/2)
	before := state(p)
	for order := 1; order < api.Orders; order++ {
		wantNoTake(t, p, order, api.ErrFull)
	}
	if state(p) != before {
		t.Error("a refused Take changed the pool")
	}
	take(t, p, 0, 0)
}

// E1: a given block is one with its other half, and so on up to the whole, in whatever order halves are given.
func TestGiveJoins(t *testing.T) {
	p := buddy.New()
	take(t, p, 0, 0)
	give(t, p, 0)
	wantWhole(t, p)

	take(t, p, 0, 0)
	take(t, p, 0, 1)
	give(t, p, 0, 1)
	wantWhole(t, p)

	take(t, p, 0, 0)
	take(t, p, 0, 1)
	give(t, p, 1, 0)
	wantWhole(t, p)

	take(t, p, top, 0)
	give(t, p, 0)
	wantWhole(t, p)
}

// E1: all blocks of an order, given from below or from above, are the whole again.
func TestGiveAll(t *testing.T) {
	for order := range api.Orders {
		for _, down := range []bool{false, true} {
			p := buddy.New()
			var all []int
			for at := 0; at < api.Frames; at += 1 << order {
				take(t, p, order, at)
				all = append(all, at)
			}
			if down {
				slices.Reverse(all)
			}
			give(t, p, all...)
			wantWhole(t, p)
		}
	}
}

// E1: free blocks that touch, but are no halves of one block, stay two.
func TestGiveNeighbours(t *testing.T) {
	p := buddy.New()
	for at := range 4 {
		take(t, p, 0, at)
	}
	give(t, p, 1, 2)
	wantFree(t, p, 0, 1, 2)
	wantFree(t, p, 1)
	give(t, p, 3)
	wantFree(t, p, 0, 1)
	wantFree(t, p, 1, 2)
	give(t, p, 0)
	wantWhole(t, p)
}

// E1: a block isn't joined with a half of which a part is taken, nor with one that is parted into free blocks and taken ones.
func TestGiveHalfInParts(t *testing.T) {
	p := buddy.New()
	take(t, p, 2, 0)
	take(t, p, 1, 4)
	take(t, p, 0, 6)
	give(t, p, 0)
	wantFree(t, p, 2, 0)
	give(t, p, 4)
	wantFree(t, p, 0, 7)
	wantFree(t, p, 1, 4)
	wantFree(t, p, 2, 0)
	wantFree(t, p, 3, 8)
	give(t, p, 6)
	wantWhole(t, p)
}

// E1, Z1, Z3: Give: ErrBound at no frame, ErrNone within a block, at a free one, and at one that was given.
func TestGiveRefused(t *testing.T) {
	p := buddy.New()
	take(t, p, 3, 0)
	take(t, p, 1, 8)
	take(t, p, 0, 10)
	give(t, p, 8)
	before := state(p)
	for _, at := range strangeFrame {
		wantErr(t, fmt.Sprintf("Give(%d)", at), p.Give(at), api.ErrBound)
	}
	for at := range api.Frames {
		if at != 0 && at != 10 {
			wantErr(t, fmt.Sprintf("Give(%d)", at), p.Give(at), api.ErrNone)
		}
	}
	if state(p) != before {
		t.Error("a refused Give changed the pool")
	}
	give(t, p, 0, 10)
	wantErr(t, "Give(0) again", p.Give(0), api.ErrNone)
	wantWhole(t, p)
}

// E1, Z1, Z3: Order tells of blocks that are taken alone, by their first frames.
func TestOrder(t *testing.T) {
	p := buddy.New()
	orders := map[int]int{0: 0, 2: 1, 4: 2, 8: 3, 16: 4, 32: 5}
	for order := range top {
		at, err := p.Take(order)
		if want, is := orders[at]; !is || want != order || err != nil {
			t.Fatalf("Take(%d): %d %v", order, at, err)
		}
	}
	for at := range api.Frames {
		if order, is := orders[at]; is {
			wantOrder(t, p, at, order, nil)
		} else {
			wantOrder(t, p, at, 0, api.ErrNone)
		}
	}
	for _, at := range strangeFrame {
		wantOrder(t, p, at, 0, api.ErrBound)
	}
	wantLeft(t, p, 1)
}

// E1, Z1: no such order.
func TestNoOrder(t *testing.T) {
	p := buddy.New()
	take(t, p, 1, 0)
	before := state(p)
	for _, order := range strangeOrder {
		wantNoTake(t, p, order, api.ErrBound)
		wantNoFree(t, p, order, api.ErrBound)
	}
	if state(p) != before {
		t.Error("a refused call changed the pool")
	}
}

// E1, Z3: ErrBound is told ahead of ErrFull.
func TestNoOrderFull(t *testing.T) {
	p := buddy.New()
	take(t, p, top, 0)
	for _, order := range strangeOrder {
		wantNoTake(t, p, order, api.ErrBound)
	}
}

// Z2: what Free tells is the caller's.
func TestFresh(t *testing.T) {
	p := buddy.New()
	for at := 0; at < api.Frames; at += 16 {
		take(t, p, 4, at)
	}
	give(t, p, 0, 32)
	before := state(p)
	one, _ := p.Free(4)
	other, _ := p.Free(4)
	one[0], one[1] = 7, 9
	_ = append(one[:1], 5)
	if !slices.Equal(other, []int{0, 32}) {
		t.Errorf("another list was written into: %v", other)
	}
	if state(p) != before {
		t.Error("the pool was written into")
	}
}

// Z2: pools have nothing in common.
func TestApart(t *testing.T) {
	p, q := buddy.New(), buddy.New()
	take(t, p, 2, 0)
	wantWhole(t, q)
	take(t, q, top, 0)
	wantOrder(t, p, 0, 2, nil)
	give(t, q, 0)
	wantLeft(t, p, api.Frames-4)
}
