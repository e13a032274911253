package pipes_test

import (
	"testing"

	"wardroom/api"
	"wardroom/pipes"
)

// plain: a set that keeps each pipe's bytes as a text, and how often it is open by the way.
type plain map[int]*plainPipe

type plainPipe struct {
	bytes string
	open  map[bool]int
}

func (p plain) wrong(n int) error {
	switch {
	case n < 0 || n >= api.Pipes:
		return api.ErrBound
	case p[n] == nil:
		return api.ErrNone
	}
	return nil
}

func (p plain) make() (int, error) {
	for n := range api.Pipes {
		if p[n] == nil {
			p[n] = &plainPipe{open: map[bool]int{toRead: 1, toWrite: 1}}
			return n, nil
		}
	}
	return 0, api.ErrFull
}

// turn: it is open so much more often that way.
func (p plain) turn(n int, write bool, by int) error {
	if err := p.wrong(n); err != nil {
		return err
	}
	x := p[n]
	if x.open[write] == 0 {
		return api.ErrState
	}
	x.open[write] += by
	if x.open[toRead]+x.open[toWrite] == 0 {
		delete(p, n)
	}
	return nil
}

func (p plain) read(n, many int) (string, error) {
	if err := p.wrong(n); err != nil {
		return "", err
	}
	x := p[n]
	switch {
	case x.open[toRead] == 0:
		return "", api.ErrState
	case many < 0:
		return "", api.ErrBound
	case x.bytes == "" && x.open[toWrite] > 0 && many > 0:
		return "", api.ErrAgain
	}
	got := ""
	for ; many > 0 && x.bytes != ""; many-- {
		got, x.bytes = got+x.bytes[:1], x.bytes[1:]
	}
	return got, nil
}

func (p plain) write(n int, t string) (int, error) {
	if err := p.wrong(n); err != nil {
		return 0, err
	}
	x := p[n]
	switch {
	case x.open[toWrite] == 0:
		return 0, api.ErrState
	case x.open[toRead] == 0:
		return 0, api.ErrBroken
	case len(x.bytes) == api.PipeRoom && t != "":
		return 0, api.ErrAgain
	}
	many := 0
	for ; many < len(t) && len(x.bytes) < api.PipeRoom; many++ {
		x.bytes += t[many : many+1]
	}
	return many, nil
}

// dice: numbers that look drawn, the same each time.
type dice uint64

func (d *dice) n(most int) int {
	*d = *d*6364136223846793005 + 1442695040888963407
	return int(uint64(*d>>33) % uint64(most))
}

// I1, I2, W5, Z1, Z3: over long rows of acts a set answers as the plain one does.
func TestAgainstPlain(t *testing.T) {
	d := dice(9)
	for range 100 {
		s, p := &pipes.Set{}, plain{}
		most, seldom := 1+d.n(api.Pipes), 1+d.n(5)
		for range 300 {
			act(t, s, p, &d, most, seldom)
			same(t, s, p)
			if t.Failed() {
				return
			}
		}
	}
}

// act on one of so many pipes, now and then on a number that is none.
func act(t *testing.T, s *pipes.Set, p plain, d *dice, most, seldom int) {
	t.Helper()
	n, write := d.n(most), d.n(2) == 0
	if d.n(20) == 0 {
		n = strange[d.n(len(strange))]
	}
	switch k := d.n(14); {
	case k < 2:
		want, fault := p.make()
		wantMake(t, s, want, fault)
	case k < 4:
		wantShare(t, s, n, write, p.turn(n, write, 1))
	case k < 6:
		if d.n(seldom) == 0 {
			wantDrop(t, s, n, write, p.turn(n, write, -1))
		}
	case k < 10:
		many := d.n(api.PipeRoom+3) - 1
		want, fault := p.read(n, many)
		wantRead(t, s, n, many, want, fault)
	default:
		text := "some\x00of\xffthese bytes"[d.n(9) : 9+d.n(10)]
		want, fault := p.write(n, text)
		wantWrite(t, s, n, text, want, fault)
	}
}

// same: do both tell the same of themselves?
func same(t *testing.T, s *pipes.Set, p plain) {
	t.Helper()
	wantPipes(t, s, len(p))
	for n := range api.Pipes {
		if err := p.wrong(n); err != nil {
			wantNone(t, s, n, err)
			continue
		}
		wantOf(t, s, n, len(p[n].bytes), p[n].open[toRead], p[n].open[toWrite])
	}
}
