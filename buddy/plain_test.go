package buddy_test

import (
	"testing"

	"wardroom/api"
	"wardroom/buddy"
)

// plain: a pool that keeps the taken blocks alone. The free ones are worked
// out: as halves that are both free are always one, they are the greatest
// blocks in which no frame is taken.
type plain map[int]int // the order of each taken block, by its first frame

func (p plain) busy(frame int) bool {
	for at, order := range p {
		if frame >= at && frame < at+1<<order {
			return true
		}
	}
	return false
}

// empty: is it a block in which no frame is taken?
func (p plain) empty(at, order int) bool {
	if order >= api.Orders || at%(1<<order) != 0 {
		return false
	}
	for frame := at; frame < at+1<<order; frame++ {
		if p.busy(frame) {
			return false
		}
	}
	return true
}

func (p plain) free(order int) ([]int, error) {
	if order < 0 || order >= api.Orders {
		return nil, api.ErrBound
	}
	var all []int
	for at := range api.Frames {
		whole := at - at%(2<<order)
		if p.empty(at, order) && !p.empty(whole, order+1) {
			all = append(all, at)
		}
	}
	return all, nil
}

func (p plain) take(order int) (int, error) {
	for o := order; ; o++ {
		free, err := p.free(o)
		switch {
		case err != nil && o > order && order >= 0:
			return 0, api.ErrFull
		case err != nil:
			return 0, err
		case len(free) > 0:
			p[free[0]] = order
			return free[0], nil
		}
	}
}

func (p plain) order(at int) (int, error) {
	if at < 0 || at >= api.Frames {
		return 0, api.ErrBound
	}
	if order, is := p[at]; is {
		return order, nil
	}
	return 0, api.ErrNone
}

func (p plain) give(at int) error {
	if _, err := p.order(at); err != nil {
		return err
	}
	delete(p, at)
	return nil
}

func (p plain) left() int {
	left := 0
	for frame := range api.Frames {
		if !p.busy(frame) {
			left++
		}
	}
	return left
}

// dice: numbers that look drawn, the same each time.
type dice uint64

func (d *dice) n(most int) int {
	*d = *d*6364136223846793005 + 1442695040888963407
	return int(uint64(*d>>33) % uint64(most))
}

// E1, Z1, Z3: over long rows of acts a pool answers as the plain one does.
func TestAgainstPlain(t *testing.T) {
	d := dice(5)
	for range 30 {
		b, p := buddy.New(), plain{}
		// How often blocks are given, and how great they are, says how full the pool comes to be.
		often, great := 1+d.n(6), 1+d.n(api.Orders)
		for range 150 {
			act(t, b, p, &d, often, great)
			same(t, b, p)
			if t.Failed() {
				return
			}
		}
	}
}

func act(t *testing.T, b *buddy.Pool, p plain, d *dice, often, great int) {
	t.Helper()
	switch k := d.n(12); {
	case k == 0:
		order := d.n(api.Orders+4) - 2
		at, err := b.Take(order)
		want, fault := p.take(order)
		wantNum(t, "Take", at, err, want, fault)
	case k <= often:
		at := d.n(api.Frames+4) - 2
		wantErr(t, "Give", b.Give(at), p.give(at))
	default:
		order := d.n(great)
		at, err := b.Take(order)
		want, fault := p.take(order)
		wantNum(t, "Take", at, err, want, fault)
	}
}

// same: do both tell the same of themselves?
func same(t *testing.T, b *buddy.Pool, p plain) {
	t.Helper()
	for order := range api.Orders {
		free, _ := p.free(order)
		wantFree(t, b, order, free...)
	}
	for at := -1; at <= api.Frames; at++ {
		order, err := p.order(at)
		wantOrder(t, b, at, order, err)
	}
	wantLeft(t, b, p.left())
}
