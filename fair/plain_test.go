package fair_test

import (
	"testing"

	"wardroom/api"
	"wardroom/fair"
)

// plain: a sched that works all out anew, of all units, with each change.
type plain struct {
	now    int
	groups map[int]*plainUnit
	tasks  map[int]*plainUnit
}

type plainUnit struct {
	group, weight        int
	time, floor          int
	ready, awake, frozen bool
	quota, period, used  int
	ran                  int
}

func newPlain() *plain {
	return &plain{groups: map[int]*plainUnit{0: {group: -1}}, tasks: map[int]*plainUnit{}}
}

func (p *plain) wrong(units map[int]*plainUnit, n, most int) error {
	if n < 0 || n >= most {
		return api.ErrBound
	}
	if units[n] == nil {
		return api.ErrNone
	}
	return nil
}

func (p *plain) wrongGroup(n int) error { return p.wrong(p.groups, n, api.Groups) }
func (p *plain) wrongTask(n int) error  { return p.wrong(p.tasks, n, api.Procs) }

func (p *plain) add(units map[int]*plainUnit, n, most, group, weight int) error {
	if n < 0 || n >= most || weight < 1 || weight > api.MaxWeight {
		return api.ErrBound
	}
	if units[n] != nil {
		return api.ErrExist
	}
	if err := p.wrongGroup(group); err != nil {
		return err
	}
	units[n] = &plainUnit{group: group, weight: weight}
	return nil
}

func (p *plain) dropGroup(n int) error {
	if err := p.wrongGroup(n); err != nil {
		return err
	}
	if n == 0 || len(p.in(n)) > 0 {
		return api.ErrBusy
	}
	delete(p.groups, n)
	return nil
}

func (p *plain) dropTask(n int) error {
	if err := p.wrongTask(n); err != nil {
		return err
	}
	delete(p.tasks, n)
	p.look(0)
	return nil
}

func (p *plain) moveTask(n, group int) error {
	if err := p.wrongTask(n); err != nil {
		return err
	}
	if err := p.wrongGroup(group); err != nil {
		return err
	}
	u := p.tasks[n]
	p.tasks[n] = &plainUnit{group: group, weight: u.weight, awake: u.awake, ran: u.ran}
	p.look(0)
	return nil
}

func (p *plain) wake(n int, on bool) error {
	if err := p.wrongTask(n); err != nil {
		return err
	}
	p.tasks[n].awake = on
	p.look(0)
	return nil
}

func (p *plain) freeze(n int, on bool) error {
	if err := p.wrongGroup(n); err != nil {
		return err
	}
	if n == 0 {
		return api.ErrState
	}
	p.groups[n].frozen = on
	p.look(0)
	return nil
}

func (p *plain) setQuota(n, quota, period int) error {
	if err := p.wrongGroup(n); err != nil {
		return err
	}
	if n == 0 {
		return api.ErrState
	}
	if quota < 0 || quota > period || period < 1 || period > api.MaxPeriod {
		return api.ErrBound
	}
	g := p.groups[n]
	g.quota, g.period, g.used = quota, period, 0
	p.look(0)
	return nil
}

// in: the units in a group, groups ahead of tasks, by rising numbers; a task's number is told as -1 less it.
func (p *plain) in(group int) []int {
	var all []int
	for n := range api.Groups {
		if u := p.groups[n]; u != nil && u.group == group {
			all = append(all, n)
		}
	}
	for n := range api.Procs {
		if u := p.tasks[n]; u != nil && u.group == group {
			all = append(all, -1-n)
		}
	}
	return all
}

func (p *plain) unit(n int) *plainUnit {
	if n < 0 {
		return p.tasks[-1-n]
	}
	return p.groups[n]
}

// look at all below a group, from below: who is ready, and is so newly?
func (p *plain) look(group int) bool {
	some := false
	for _, n := range p.in(group) {
		u := p.unit(n)
		is := u.awake
		if n >= 0 {
			is = p.look(n) && !u.frozen && (u.quota == 0 || u.used < u.quota)
		}
		if is && !u.ready {
			u.time = max(u.time, p.groups[group].floor)
		}
		u.ready = is
		some = some || is
	}
	return some
}

// first of the ready units in a group.
func (p *plain) first(group int) (int, bool) {
	best, some := 0, false
	for _, n := range p.in(group) {
		if u := p.unit(n); u.ready && (!some || u.time < p.unit(best).time) {
			best, some = n, true
		}
	}
	return best, some
}

func (p *plain) tick() int {
	for n := range api.Groups {
		if g := p.groups[n]; g != nil && g.quota > 0 && p.now%g.period == 0 {
			g.used = 0
			p.look(0)
		}
	}
	p.now++
	at, some := p.first(0)
	if !some {
		return -1
	}
	for at >= 0 {
		at, _ = p.first(at)
	}
	p.unit(at).ran++
	for n := at; n != 0; n = p.unit(n).group {
		u := p.unit(n)
		g := p.groups[u.group]
		g.floor = max(g.floor, u.time)
		u.time += api.One / u.weight
		if u.quota > 0 {
			u.used++
		}
	}
	p.look(0)
	return -1 - at
}

// dice: the same row of numbers each time.
type dice uint64

func (d *dice) roll(most int) int {
	*d = *d*6364136223846793005 + 1442695040888963407
	return int(uint64(*d>>33) % uint64(most))
}

// weight: often one that goes well with others, so that virtual times are equal now and then.
func (d *dice) weight() int {
	return []int{0, 1, 1, 2, 3, 4, 8, 100, 1000, 1001, 1 + d.roll(1000)}[d.roll(11)]
}

// act: one call on both; each error must be the same.
func act(t *testing.T, s *fair.Sched, p *plain, d *dice, groups, tasks int) {
	t.Helper()
	n, g, w, on := d.roll(tasks+2)-1, d.roll(groups+2)-1, d.weight(), d.roll(3) > 0
	switch k := d.roll(20); k {
	case 0, 1:
		parent := d.roll(groups)
		wantErr(t, "AddGroup", s.AddGroup(g, parent, w), p.add(p.groups, g, api.Groups, parent, w))
	case 2, 3, 4:
		wantErr(t, "AddTask", s.AddTask(n, g, w), p.add(p.tasks, n, api.Procs, g, w))
	case 5, 6, 7, 8:
		wantErr(t, "Wake", s.Wake(n, on), p.wake(n, on))
	case 9:
		wantErr(t, "DropGroup", s.DropGroup(g), p.dropGroup(g))
	case 10:
		wantErr(t, "DropTask", s.DropTask(n), p.dropTask(n))
	case 11, 12:
		wantErr(t, "MoveTask", s.MoveTask(n, g), p.moveTask(n, g))
	case 13:
		wantErr(t, "Freeze", s.Freeze(g, !on), p.freeze(g, !on))
	case 14:
		period := d.roll(9)
		quota := d.roll(period+2) - d.roll(10)/9
		wantErr(t, "Quota", s.Quota(g, quota, period), p.setQuota(g, quota, period))
	default:
		for range d.roll(12) {
			if got, want := s.Tick(), p.tick(); got != want {
				t.Fatalf("Tick() at %d: %d, want %d", p.now-1, got, want)
			}
		}
	}
}

// C1 to C4: long rows of acts are answered as a plain sched answers them.
func TestAgainstPlain(t *testing.T) {
	d := dice(3)
	for round := range 300 {
		s, p := fair.New(), newPlain()
		groups, tasks := []int{3, 5, api.Groups}[round%3], []int{3, 7, api.Procs}[round/3%3]
		for range 300 {
			act(t, s, p, &d, groups, tasks)
			if s.Now() != p.now {
				t.Fatalf("Now(): %d, want %d", s.Now(), p.now)
			}
			for n := range api.Procs {
				if u := p.tasks[n]; u != nil {
					wantRan(t, s, n, u.ran, nil)
				} else {
					wantRan(t, s, n, 0, api.ErrNone)
				}
			}
			if t.Failed() {
				t.FailNow()
			}
		}
	}
}

// apart: do two that ran so often, with these weights, differ by more than one step of theirs?
func apart(ran, weight, ran2, weight2 int) bool {
	step, step2 := api.One/weight, api.One/weight2
	far := ran*step - ran2*step2
	return max(far, -far) > max(step, step2)
}

// W3: of two tasks of one group that are awake all the time each has its share, whatever others do.
func TestShareOfTasks(t *testing.T) {
	d := dice(5)
	for range 40 {
		s := fair.New()
		a, b := 1+d.roll(api.MaxWeight), 1+d.roll(20)
		group(t, s, 1, 0, 7)
		awake(t, s, 0, 1, a)
		awake(t, s, 1, 1, b)
		task(t, s, 2, 1, 50)
		task(t, s, 3, 0, 9)
		for range 600 {
			wake(t, s, 2+d.roll(2), d.roll(2) > 0)
			freeze(t, s, 1, d.roll(9) == 0)
			s.Tick()
			ran, _ := s.Ran(0)
			ran2, _ := s.Ran(1)
			if apart(ran, a, ran2, b) {
				t.Fatalf("weights %d and %d: ran %d and %d of %d", a, b, ran, ran2, s.Now())
			}
		}
	}
}

// W3: so it is of groups that have such tasks, be there ever so many in one of them.
func TestShareOfGroups(t *testing.T) {
	d := dice(6)
	for range 40 {
		s := fair.New()
		a, b := 1+d.roll(9), 1+d.roll(9)
		group(t, s, 1, 0, a)
		group(t, s, 2, 0, b)
		for n := range 6 {
			awake(t, s, n, 1+n/5, 1+d.roll(100)) // five in the one, one in the other
		}
		task(t, s, 6, 0, 3)
		one, two := 0, 0
		for range 600 {
			wake(t, s, 6, d.roll(2) > 0)
			switch n := s.Tick(); {
			case n == 5:
				two++
			case n < 5:
				one++
			}
			if apart(one, a, two, b) {
				t.Fatalf("weights %d and %d: ran %d and %d", a, b, one, two)
			}
		}
	}
}

// W3: who wakes up is not far ahead of who was awake: by one step of the one that is awake at most, and by its own.
func TestWhoWakesIsNotFarAhead(t *testing.T) {
	for _, slept := range []int{1, 10, 1000} {
		s := fair.New()
		task(t, s, 0, 0, 10)
		awake(t, s, 1, 0, 10)
		runs(s, slept)
		wake(t, s, 0, true)
		runs(s, 100)
		if ran, _ := s.Ran(0); ran < 49 || ran > 51 {
			t.Errorf("who slept %d ticks ran in %d of 100", slept, ran)
		}
	}
}

// bounded: groups 1 and, below it, 2 with quotas; four tasks, in the root, in 1, in 1, in 2.
type bounded struct {
	s      *fair.Sched
	quota  [3]int
	period [3]int
	used   [3]int
	awake  [4]bool
}

func newBounded(t *testing.T, d *dice) *bounded {
	b := &bounded{s: fair.New()}
	for n := 1; n < 3; n++ {
		b.quota[n] = 1 + d.roll(4)
		b.period[n] = b.quota[n] + d.roll(6)
		group(t, b.s, n, n-1, 1+d.roll(9))
		quota(t, b.s, n, b.quota[n], b.period[n])
	}
	for n, in := range []int{0, 1, 1, 2} {
		task(t, b.s, n, in, 1+d.roll(9))
	}
	return b
}

// may: may somebody run?
func (b *bounded) may() bool {
	one, two := b.used[1] < b.quota[1], b.used[2] < b.quota[2]
	return b.awake[0] || one && (b.awake[1] || b.awake[2] || two && b.awake[3])
}

// count the tick of who ran in the groups above it.
func (b *bounded) count(who int) {
	if who > 0 {
		b.used[1]++
	}
	if who == 3 {
		b.used[2]++
	}
}

// W4: in no period does a group, with those below it, run in more ticks than its quota; if somebody may run, somebody does.
func TestQuotaHoldsAlways(t *testing.T) {
	d := dice(7)
	for range 60 {
		b := newBounded(t, &d)
		for now := range 400 {
			n := d.roll(4)
			b.awake[n] = d.roll(3) > 0
			wake(t, b.s, n, b.awake[n])
			for g := 1; g < 3; g++ {
				if now%b.period[g] == 0 {
					b.used[g] = 0
				}
			}
			may, who := b.may(), b.s.Tick()
			if (who >= 0) != may || may && !b.awake[who] {
				t.Fatalf("at %d %d ran, of %v; may somebody: %v", now, who, b.awake, may)
			}
			b.count(who)
			if b.used[1] > b.quota[1] || b.used[2] > b.quota[2] {
				t.Fatalf("at %d: %v of %v are used", now, b.used, b.quota)
			}
		}
	}
}
