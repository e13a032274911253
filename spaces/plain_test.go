package spaces_test

import (
	"testing"

	"wardroom/api"
	"wardroom/spaces"
)

// plain: a table that keeps for each space its parent, for each process its numbers by space.
type plain struct {
	parent map[int]int
	home   map[int]int
	pids   map[int]map[int]int
}

func newPlain() *plain {
	return &plain{parent: map[int]int{0: -1}, home: map[int]int{}, pids: map[int]map[int]int{}}
}

func (p *plain) wrong(n int) error {
	if n < 0 || n >= api.Spaces {
		return api.ErrBound
	}
	if _, is := p.parent[n]; !is {
		return api.ErrNone
	}
	return nil
}

// up: a space and all above it.
func (p *plain) up(n int) []int {
	if n < 0 {
		return nil
	}
	return append([]int{n}, p.up(p.parent[n])...)
}

func (p *plain) add(parent int) (int, error) {
	if err := p.wrong(parent); err != nil {
		return 0, err
	}
	if len(p.up(parent)) == api.Deep {
		return 0, api.ErrDeep
	}
	for n := range api.Spaces {
		if p.wrong(n) != nil {
			p.parent[n] = parent
			return n, nil
		}
	}
	return 0, api.ErrFull
}

func (p *plain) drop(n int) error {
	if err := p.wrong(n); err != nil {
		return err
	}
	for _, parent := range p.parent {
		if parent == n {
			return api.ErrBusy
		}
	}
	if n == 0 || len(p.members(n)) > 0 {
		return api.ErrBusy
	}
	delete(p.parent, n)
	return nil
}

func (p *plain) find(n, pid int) (int, error) {
	if err := p.wrong(n); err != nil {
		return 0, err
	}
	for proc, pids := range p.pids {
		if has, is := pids[n]; is && has == pid {
			return proc, nil
		}
	}
	return 0, api.ErrNone
}

func (p *plain) members(n int) []int {
	var all []int
	for pid := 1; pid <= api.Procs; pid++ {
		if proc, err := p.find(n, pid); err == nil {
			all = append(all, proc)
		}
	}
	return all
}

func (p *plain) enter(n, proc int) (int, error) {
	if err := p.wrong(n); err != nil {
		return 0, err
	}
	if proc < 0 || proc >= api.Procs {
		return 0, api.ErrBound
	}
	if p.pids[proc] != nil {
		return 0, api.ErrExist
	}
	pids := map[int]int{}
	for _, at := range p.up(n) {
		pids[at] = 1
		for {
			if _, err := p.find(at, pids[at]); err != nil {
				break
			}
			pids[at]++
		}
	}
	p.home[proc], p.pids[proc] = n, pids
	return pids[n], nil
}

func (p *plain) of(proc int) (int, error) {
	if proc < 0 || proc >= api.Procs {
		return 0, api.ErrBound
	}
	if p.pids[proc] == nil {
		return 0, api.ErrNone
	}
	return p.home[proc], nil
}

func (p *plain) leave(proc int) error {
	if _, err := p.of(proc); err != nil {
		return err
	}
	delete(p.home, proc)
	delete(p.pids, proc)
	return nil
}

func (p *plain) pid(proc, n int) (int, error) {
	if err := p.wrong(n); err != nil {
		return 0, err
	}
	if proc < 0 || proc >= api.Procs {
		return 0, api.ErrBound
	}
	if pid, is := p.pids[proc][n]; is {
		return pid, nil
	}
	return 0, api.ErrNone
}

// dice: numbers that look drawn, the same each time.
type dice uint64

func (d *dice) n(most int) int {
	*d = *d*6364136223846793005 + 1442695040888963407
	return int(uint64(*d>>33) % uint64(most))
}

// D1, D2, Z1, Z3: over long rows of acts a table answers as the plain one does.
func TestAgainstPlain(t *testing.T) {
	d := dice(4)
	for range 40 {
		s, p := spaces.New(), newPlain()
		// How often somebody leaves, and a space is dropped, says how full the table comes to be.
		least := 1 + d.n(6)
		for range 200 {
			act(t, s, p, &d, least)
			same(t, s, p)
			if t.Failed() {
				return
			}
		}
	}
}

func act(t *testing.T, s *spaces.Table, p *plain, d *dice, least int) {
	t.Helper()
	n, proc := d.n(api.Spaces+2)-1, d.n(api.Procs+2)-1
	switch k := d.n(12); {
	case k < 2:
		got, err := s.Add(n)
		want, fault := p.add(n)
		wantNum(t, "Add", got, err, want, fault)
	case k < 3:
		wantErr(t, "Drop", s.Drop(n), p.drop(n))
	case k < 3+least:
		wantErr(t, "Leave", s.Leave(proc), p.leave(proc))
	default:
		got, err := s.Enter(n, proc)
		want, fault := p.enter(n, proc)
		wantNum(t, "Enter", got, err, want, fault)
	}
}

// same: do both tell the same of themselves?
func same(t *testing.T, s *spaces.Table, p *plain) {
	t.Helper()
	var all []int
	for n := -1; n <= api.Spaces; n++ {
		if p.wrong(n) == nil {
			all = append(all, n)
			wantMembers(t, s, n, p.members(n)...)
		} else {
			wantNoMembers(t, s, n, p.wrong(n))
		}
		for proc := -1; proc <= api.Procs; proc++ {
			pid, err := p.pid(proc, n)
			wantPid(t, s, proc, n, pid, err)
			who, err := p.find(n, proc+1)
			wantFind(t, s, n, proc+1, who, err)
		}
	}
	for proc := -1; proc <= api.Procs; proc++ {
		n, err := p.of(proc)
		wantOf(t, s, proc, n, err)
	}
	wantAll(t, s, all...)
}
