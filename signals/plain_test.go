package signals_test

import (
	"maps"
	"testing"

	"wardroom/api"
	"wardroom/signals"
)

// plain: a box that keeps, by their numbers, those that wait, those that are held back, and those that aren't Default.
type plain struct {
	waits, held map[int]bool
	how         map[int]int
}

func newPlain() *plain {
	return &plain{waits: map[int]bool{}, held: map[int]bool{}, how: map[int]int{}}
}

func (p *plain) wrong(n int) error {
	if n < 1 || n > api.Signals {
		return api.ErrBound
	}
	return nil
}

func (p *plain) ignored(n int) bool {
	switch p.how[n] {
	case api.Ignore:
		return true
	case api.Default:
		return n == api.Kid
	}
	return false
}

func (p *plain) send(n int) error {
	if err := p.wrong(n); err != nil {
		return err
	}
	if !p.ignored(n) {
		p.waits[n] = true
	}
	return nil
}

func (p *plain) hold(n int, on bool) error {
	if err := p.wrong(n); err != nil {
		return err
	}
	if n == api.Kill {
		return api.ErrState
	}
	p.held[n] = on
	return nil
}

func (p *plain) done(n, how int) error {
	switch {
	case p.wrong(n) != nil:
		return api.ErrBound
	case how < api.Default || how > api.Catch:
		return api.ErrBound
	case n == api.Kill:
		return api.ErrState
	}
	p.how[n] = how
	if p.ignored(n) {
		delete(p.waits, n)
	}
	return nil
}

// least: that which waits, isn't held back, and is done with so; 0: there is none.
func (p *plain) least(how int) int {
	for _, n := range all() {
		if p.waits[n] && !p.held[n] && p.how[n] == how {
			return n
		}
	}
	return 0
}

func (p *plain) take() int {
	n := p.least(api.Catch)
	delete(p.waits, n)
	return n
}

func (p *plain) child() *plain {
	return &plain{waits: map[int]bool{}, held: maps.Clone(p.held), how: maps.Clone(p.how)}
}

// dice: numbers that look drawn, the same each time.
type dice uint64

func (d *dice) n(most int) int {
	*d = *d*6364136223846793005 + 1442695040888963407
	return int(uint64(*d>>33) % uint64(most))
}

// pair: a box, and what it should be.
type pair struct {
	box *signals.Box
	is  *plain
}

// L1, L2, Z1 to Z3: over long rows of acts a family of boxes answers as the plain ones do.
func TestAgainstPlain(t *testing.T) {
	d := dice(11)
	for range 100 {
		family := []pair{{&signals.Box{}, newPlain()}}
		for range 300 {
			x := family[d.n(len(family))]
			if d.n(30) == 0 {
				family = append(family, pair{x.box.Child(), x.is.child()})
			}
			act(t, x, &d)
			for _, x := range family {
				same(t, x)
			}
			if t.Failed() {
				return
			}
		}
	}
}

// act on a signal, now and then on a number that is none.
func act(t *testing.T, x pair, d *dice) {
	t.Helper()
	n := 1 + d.n(api.Signals)
	if d.n(20) == 0 {
		n = strange[d.n(len(strange))]
	}
	switch k := d.n(12); {
	case k < 4:
		wantSend(t, x.box, n, x.is.send(n))
	case k < 7:
		on := d.n(2) == 0
		wantHold(t, x.box, n, on, x.is.hold(n, on))
	case k < 10:
		how := hows[d.n(len(hows))]
		if d.n(10) == 0 {
			how = strangeHows[d.n(len(strangeHows))]
		}
		wantHow(t, x.box, n, how, x.is.done(n, how))
	default:
		wantTake(t, x.box, x.is.take())
	}
}

// same: do both tell the same of themselves?
func same(t *testing.T, x pair) {
	t.Helper()
	wantEnds(t, x.box, x.is.least(api.Default))
	for _, n := range all() {
		if got := x.box.Waits(n); got != x.is.waits[n] {
			t.Errorf("Waits(%d): %t, want %t", n, got, x.is.waits[n])
		}
	}
}
