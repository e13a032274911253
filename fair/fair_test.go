package fair_test

import (
	"math"
	"slices"
	"testing"

	"wardroom/api"
	"wardroom/fair"
)

// strange: numbers that are neither a group's nor a task's.
var strange = []int{-1, -2, api.Procs, api.Procs + 1, api.Groups + api.Procs, math.MinInt, math.MaxInt, math.MinInt32, math.MaxInt32, 1 << 32}

func wantErr(t *testing.T, what string, err, want error) {
	t.Helper()
	if err != want {
		t.Errorf("%s: %v, want %v", what, err, want)
	}
}

func group(t *testing.T, s *fair.Sched, n, parent, weight int) {
	t.Helper()
	if err := s.AddGroup(n, parent, weight); err != nil {
		t.Fatalf("AddGroup(%d, %d, %d): %v", n, parent, weight, err)
	}
}

func task(t *testing.T, s *fair.Sched, n, group, weight int) {
	t.Helper()
	if err := s.AddTask(n, group, weight); err != nil {
		t.Fatalf("AddTask(%d, %d, %d): %v", n, group, weight, err)
	}
}

// awake: a new task that is awake.
func awake(t *testing.T, s *fair.Sched, n, group, weight int) {
	t.Helper()
	task(t, s, n, group, weight)
	wake(t, s, n, true)
}

func wake(t *testing.T, s *fair.Sched, n int, on bool) {
	t.Helper()
	wantErr(t, "Wake", s.Wake(n, on), nil)
}

func freeze(t *testing.T, s *fair.Sched, n int, on bool) {
	t.Helper()
	wantErr(t, "Freeze", s.Freeze(n, on), nil)
}

func quota(t *testing.T, s *fair.Sched, n, quota, period int) {
	t.Helper()
	wantErr(t, "Quota", s.Quota(n, quota, period), nil)
}

func move(t *testing.T, s *fair.Sched, n, group int) {
	t.Helper()
	wantErr(t, "MoveTask", s.MoveTask(n, group), nil)
}

// runs: who runs in as many ticks.
func runs(s *fair.Sched, many int) []int {
	var who []int
	for range many {
		who = append(who, s.Tick())
	}
	return who
}

func wantRuns(t *testing.T, s *fair.Sched, want ...int) {
	t.Helper()
	now := s.Now()
	if got := runs(s, len(want)); !slices.Equal(got, want) {
		t.Errorf("from %d on: %v, want %v", now, got, want)
	}
	if got := s.Now(); got != now+len(want) {
		t.Errorf("Now(): %d, want %d", got, now+len(want))
	}
}

func wantRan(t *testing.T, s *fair.Sched, n, want int, wrong error) {
	t.Helper()
	if got, err := s.Ran(n); got != want || err != wrong {
		t.Errorf("Ran(%d): %d %v, want %d %v", n, got, err, want, wrong)
	}
}

// C1: at first there is the root alone, and no tick went by.
func TestNew(t *testing.T) {
	s := fair.New()
	if s.Now() != 0 {
		t.Errorf("Now(): %d, want 0", s.Now())
	}
	for n := range api.Procs {
		wantRan(t, s, n, 0, api.ErrNone)
		wantErr(t, "DropTask", s.DropTask(n), api.ErrNone)
	}
	for n := 1; n < api.Groups; n++ {
		wantErr(t, "DropGroup", s.DropGroup(n), api.ErrNone)
	}
	wantErr(t, "AddGroup of the root", s.AddGroup(0, 0, 1), api.ErrExist)
	wantErr(t, "DropGroup of the root", s.DropGroup(0), api.ErrBusy)
	wantRuns(t, s, -1, -1, -1)
}

// C1, Z3: the errors of AddGroup, in their order; what is refused is not there.
func TestAddGroupErrors(t *testing.T) {
	s := fair.New()
	group(t, s, 2, 0, 1)
	for _, c := range []struct {
		n, parent, weight int
		want              error
	}{
		{-1, 0, 1, api.ErrBound},
		{api.Groups, 5, 1, api.ErrBound},
		{3, 0, 0, api.ErrBound},
		{3, 0, -1, api.ErrBound},
		{3, 0, api.MaxWeight + 1, api.ErrBound},
		{3, 5, math.MaxInt, api.ErrBound},
		{3, 5, math.MinInt, api.ErrBound},
		{2, 0, 0, api.ErrBound},
		{2, -1, 1, api.ErrExist},
		{2, 5, 1, api.ErrExist},
		{0, -1, 1, api.ErrExist},
		{3, -1, 1, api.ErrBound},
		{3, api.Groups, 1, api.ErrBound},
		{3, 5, 1, api.ErrNone},
		{3, 3, 1, api.ErrNone},
	} {
		wantErr(t, "AddGroup", s.AddGroup(c.n, c.parent, c.weight), c.want)
	}
	wantErr(t, "DropGroup of one that was refused", s.DropGroup(3), api.ErrNone)
	wantErr(t, "AddGroup of the greatest weight", s.AddGroup(3, 2, api.MaxWeight), nil)
}

// C1, Z3: the errors of AddTask, in their order; what is refused is not there.
func TestAddTaskErrors(t *testing.T) {
	s := fair.New()
	task(t, s, 2, 0, 1)
	for _, c := range []struct {
		n, group, weight int
		want             error
	}{
		{-1, 0, 1, api.ErrBound},
		{api.Procs, 5, 1, api.ErrBound},
		{3, 0, 0, api.ErrBound},
		{3, 0, -1, api.ErrBound},
		{3, 0, api.MaxWeight + 1, api.ErrBound},
		{3, 5, math.MaxInt, api.ErrBound},
		{3, 5, math.MinInt, api.ErrBound},
		{2, 0, 0, api.ErrBound},
		{2, -1, 1, api.ErrExist},
		{2, 5, 1, api.ErrExist},
		{3, -1, 1, api.ErrBound},
		{3, api.Groups, 1, api.ErrBound},
		{3, 5, 1, api.ErrNone},
		{3, 3, 1, api.ErrNone},
	} {
		wantErr(t, "AddTask", s.AddTask(c.n, c.group, c.weight), c.want)
	}
	wantRan(t, s, 3, 0, api.ErrNone)
	wantErr(t, "AddTask of the greatest weight", s.AddTask(3, 0, api.MaxWeight), nil)
	wantRan(t, s, 3, 0, nil)
}

// C1: groups and tasks have numbers apart, and each number has room; a task is added asleep.
func TestAllUnits(t *testing.T) {
	s := fair.New()
	for n := 1; n < api.Groups; n++ {
		group(t, s, n, n-1, n)
	}
	for n := range api.Procs {
		task(t, s, n, n%api.Groups, 1+n)
	}
	wantRuns(t, s, -1)
	for n := range api.Procs {
		wake(t, s, n, true)
		wantRuns(t, s, n)
		wantRan(t, s, n, 1, nil)
		wake(t, s, n, false)
		wantRuns(t, s, -1)
	}
	for n := range api.Procs {
		wantErr(t, "DropTask", s.DropTask(n), nil)
		wantRan(t, s, n, 0, api.ErrNone)
	}
	for n := api.Groups - 1; n > 0; n-- {
		wantErr(t, "DropGroup", s.DropGroup(n), nil)
	}
	wantErr(t, "DropGroup of the root", s.DropGroup(0), api.ErrBusy)
}

// C1: a group goes only when nothing is in it, be it a task or a group, awake or not.
func TestDropGroup(t *testing.T) {
	s := fair.New()
	group(t, s, 2, 0, 1)
	group(t, s, 1, 2, 1)
	task(t, s, 19, 1, 1)
	wantErr(t, "DropGroup above a group", s.DropGroup(2), api.ErrBusy)
	wantErr(t, "DropGroup above a task", s.DropGroup(1), api.ErrBusy)
	wake(t, s, 19, true)
	wantErr(t, "DropGroup above a task", s.DropGroup(1), api.ErrBusy)
	wantRuns(t, s, 19)
	wantErr(t, "DropTask", s.DropTask(19), nil)
	wantErr(t, "DropGroup", s.DropGroup(1), nil)
	wantErr(t, "DropGroup again", s.DropGroup(1), api.ErrNone)
	wantErr(t, "DropGroup", s.DropGroup(2), nil)
	wantErr(t, "AddTask in one that is no more", s.AddTask(19, 2, 1), api.ErrNone)
}

// C1: a task that is dropped awake runs no more, nor does its group; others go on.
func TestDropTask(t *testing.T) {
	s := fair.New()
	group(t, s, 1, 0, 1)
	awake(t, s, 0, 1, 1)
	awake(t, s, 1, 1, 1)
	awake(t, s, 2, 0, 1)
	wantRuns(t, s, 0, 2, 1, 2)
	wantErr(t, "DropTask", s.DropTask(0), nil)
	wantErr(t, "DropTask again", s.DropTask(0), api.ErrNone)
	wantErr(t, "Wake", s.Wake(0, true), api.ErrNone)
	wantRuns(t, s, 1, 2)
	wantErr(t, "DropTask", s.DropTask(1), nil)
	wantRuns(t, s, 2, 2)
	wantErr(t, "DropTask", s.DropTask(2), nil)
	wantRuns(t, s, -1)
}

// C1, C3: who is added anew has nothing of the one that had its number.
func TestAddedAnew(t *testing.T) {
	s := fair.New()
	awake(t, s, 0, 0, 1)
	wantRuns(t, s, 0, 0, 0)
	wantRan(t, s, 0, 3, nil)
	wantErr(t, "DropTask", s.DropTask(0), nil)
	task(t, s, 0, 0, 3)
	wantRan(t, s, 0, 0, nil)
	wantRuns(t, s, -1)
	awake(t, s, 1, 0, 1)
	wake(t, s, 0, true) // both from the floor on
	wantRuns(t, s, 0, 1, 0, 0, 0, 1)

	group(t, s, 1, 0, 1)
	awake(t, s, 2, 1, 1)
	freeze(t, s, 1, true)
	quota(t, s, 1, 1, 100)
	wantErr(t, "DropTask", s.DropTask(2), nil)
	wantErr(t, "DropGroup", s.DropGroup(1), nil)
	wake(t, s, 0, false)
	wake(t, s, 1, false)
	group(t, s, 1, 0, 1)
	awake(t, s, 2, 1, 1)
	wantRuns(t, s, 2, 2, 2)
}

// C1, C3: the floor and the virtual time of a group go with it.
func TestGroupAddedAnew(t *testing.T) {
	s := fair.New()
	awake(t, s, 0, 0, 1)
	group(t, s, 1, 0, 1)
	awake(t, s, 1, 1, 1)
	wantRuns(t, s, 1, 0, 1, 0, 1)
	wantErr(t, "DropTask", s.DropTask(1), nil)
	wantErr(t, "DropGroup", s.DropGroup(1), nil)
	group(t, s, 1, 0, 1)
	awake(t, s, 2, 1, 1)
	wantRuns(t, s, 2, 0) // from the root's floor on, not from the time of the one that was
	task(t, s, 3, 1, 1)
	wake(t, s, 0, false)
	wake(t, s, 3, true)
	wantRuns(t, s, 3, 2, 3) // its floor is what 2 had when it ran
}

// C1: Now counts all ticks, Ran those in which the task ran.
func TestRan(t *testing.T) {
	s := fair.New()
	wantRuns(t, s, -1, -1)
	awake(t, s, 4, 0, 2)
	task(t, s, 5, 0, 1)
	wantRuns(t, s, 4, 4, 4)
	wake(t, s, 5, true)
	runs(s, 12)
	a, _ := s.Ran(4)
	b, _ := s.Ran(5)
	if a+b != 15 || s.Now() != 17 {
		t.Errorf("Ran: %d and %d, Now: %d; 15 ticks of 17 were run", a, b, s.Now())
	}
	wake(t, s, 4, false)
	wantRan(t, s, 4, a, nil)
	group(t, s, 1, 0, 1)
	move(t, s, 4, 1)
	wantRan(t, s, 4, a, nil)
}

// C2: to wake who is awake, or to put to sleep who is asleep, changes nothing.
func TestWakeTwice(t *testing.T) {
	s := fair.New()
	awake(t, s, 0, 0, 1)
	awake(t, s, 1, 0, 1)
	wantRuns(t, s, 0)
	wake(t, s, 0, true)
	wake(t, s, 1, true)
	wantRuns(t, s, 1, 0, 1)
	wake(t, s, 1, false)
	wake(t, s, 1, false)
	wantRuns(t, s, 0, 0)
	wake(t, s, 0, false)
	wantRuns(t, s, -1)
}

// C2: nobody below a group that is frozen runs; what is woken there runs when it is thawed.
func TestFreeze(t *testing.T) {
	s := fair.New()
	group(t, s, 1, 0, 1)
	group(t, s, 2, 1, 1)
	awake(t, s, 0, 2, 1)
	awake(t, s, 1, 1, 1)
	awake(t, s, 2, 0, 1)
	freeze(t, s, 2, true)
	wantRuns(t, s, 1, 2, 1, 2)
	freeze(t, s, 1, true)
	freeze(t, s, 2, false)
	wantRuns(t, s, 2, 2)
	wake(t, s, 2, false)
	wantRuns(t, s, -1)
	wake(t, s, 1, false)
	freeze(t, s, 1, true)
	freeze(t, s, 1, false)
	wantRuns(t, s, 0, 0)
	wake(t, s, 0, false)
	freeze(t, s, 2, true)
	wake(t, s, 0, true)
	wantRuns(t, s, -1)
	freeze(t, s, 2, false)
	freeze(t, s, 2, false)
	wantRuns(t, s, 0)
}

// C2, Z3: the errors of Freeze and Quota, in their order; what is refused changes nothing.
func TestHoldErrors(t *testing.T) {
	s := fair.New()
	group(t, s, 1, 0, 1)
	awake(t, s, 0, 1, 1)
	quota(t, s, 1, 1, 4)
	for _, on := range []bool{true, false} {
		wantErr(t, "Freeze of the root", s.Freeze(0, on), api.ErrState)
		wantErr(t, "Freeze of none", s.Freeze(2, on), api.ErrNone)
		wantErr(t, "Freeze out of bounds", s.Freeze(api.Groups, on), api.ErrBound)
		wantErr(t, "Freeze out of bounds", s.Freeze(-1, on), api.ErrBound)
	}
	for _, q := range [][2]int{{-1, 1}, {2, 1}, {0, 0}, {0, -1}, {0, api.MaxPeriod + 1}, {api.MaxPeriod + 1, api.MaxPeriod + 1},
		{math.MinInt, 1}, {math.MaxInt, math.MaxInt}, {0, math.MinInt}, {1, math.MaxInt}, {math.MinInt, math.MinInt}} {
		wantErr(t, "Quota", s.Quota(1, q[0], q[1]), api.ErrBound)
		wantErr(t, "Quota of the root", s.Quota(0, q[0], q[1]), api.ErrState)
		wantErr(t, "Quota of none", s.Quota(2, q[0], q[1]), api.ErrNone)
		wantErr(t, "Quota out of bounds", s.Quota(api.Groups, q[0], q[1]), api.ErrBound)
	}
	wantErr(t, "Quota of the root", s.Quota(0, 1, 2), api.ErrState)
	wantRuns(t, s, 0, -1, -1, -1, 0, -1)
	wantErr(t, "Quota", s.Quota(1, 2, 1), api.ErrBound)
	wantRuns(t, s, -1)
	wantErr(t, "Quota of all", s.Quota(1, api.MaxPeriod, api.MaxPeriod), nil)
	wantErr(t, "Quota of the least", s.Quota(1, 1, 1), nil)
	wantRuns(t, s, 0, 0, 0)
}

// C2, C4: periods are told by Now alone; a quota that is set anew is unused; 0 is none.
func TestQuota(t *testing.T) {
	s := fair.New()
	group(t, s, 1, 0, 1)
	awake(t, s, 0, 1, 1)
	wantRuns(t, s, 0)
	quota(t, s, 1, 2, 5)
	wantRuns(t, s, 0, 0, -1, -1) // up to 5
	wantRuns(t, s, 0, 0, -1)
	quota(t, s, 1, 1, 5)
	wantRuns(t, s, 0, -1) // up to 10
	wantRuns(t, s, 0, -1)
	quota(t, s, 1, 0, 5)
	wantRuns(t, s, 0, 0, 0, 0, 0, 0)
	quota(t, s, 1, 3, 3)
	wantRuns(t, s, 0, 0, 0, 0, 0, 0)
	wake(t, s, 0, false)
	quota(t, s, 1, 1, 4)
	wantRuns(t, s, -1)
	wake(t, s, 0, true)
	wantRuns(t, s, 0, -1, -1, 0, -1, -1, -1, 0) // from 25 on; 28 and 32 begin a period
}

// C2, C4: a tick counts for each group above the task, and each must have one left.
func TestQuotaOneBelowTheOther(t *testing.T) {
	for _, upper := range []int{1, 5} { // the number of the one above is the lesser one, then the greater one
		s := fair.New()
		lower := 6 - upper
		group(t, s, upper, 0, 1)
		group(t, s, lower, upper, 1)
		awake(t, s, 0, lower, 1)
		awake(t, s, 1, upper, 1)
		quota(t, s, upper, 3, 6)
		quota(t, s, lower, 1, 2)
		wantRuns(t, s, 0, 1, 0, -1, -1, -1)
		wake(t, s, 1, false)
		wantRuns(t, s, 0, -1, 0, -1, 0, -1)
		quota(t, s, upper, 1, 6)
		wantRuns(t, s, 0, -1, -1, -1, -1, -1)
		quota(t, s, upper, 1, 1)
		quota(t, s, lower, 2, 6)
		wantRuns(t, s, 0, 0, -1, -1, -1, -1, 0)
	}
}

// C2, C3: who is moved begins anew, at the floor of where it comes to; Ran, its weight, and whether it is awake stay.
func TestMoveTask(t *testing.T) {
	s := fair.New()
	group(t, s, 1, 0, 1)
	awake(t, s, 0, 0, 3)
	awake(t, s, 1, 1, 1)
	wantRuns(t, s, 1, 0, 0, 0, 0, 1)
	wake(t, s, 0, false)
	wantRuns(t, s, 1, 1)
	move(t, s, 0, 1)
	wantRan(t, s, 0, 4, nil)
	wantRuns(t, s, 1)
	wake(t, s, 0, true)
	wantRuns(t, s, 0, 0, 0, 0, 1, 0, 0, 0, 1)
	move(t, s, 1, 0)
	wantRan(t, s, 1, 7, nil)
	wantRuns(t, s, 1, 0, 1, 0) // it is at the root's floor, the group one step further
	move(t, s, 0, 0)
	wantErr(t, "DropGroup of one that was left", s.DropGroup(1), nil)
}

// C2: to be moved to the same group is to be added anew, too.
func TestMoveTaskToTheSame(t *testing.T) {
	s := fair.New()
	awake(t, s, 0, 0, 1)
	awake(t, s, 1, 0, 2)
	wantRuns(t, s, 0, 1, 1, 0)
	move(t, s, 0, 0) // the floor is one step, so that it is level with 1
	wantRuns(t, s, 0, 1, 1)
	wake(t, s, 1, false)
	wantRuns(t, s, 0, 0)
	wake(t, s, 0, false)
	move(t, s, 0, 0)
	wantRuns(t, s, -1)
	wantRan(t, s, 0, 5, nil)
}

// C2: a task that is moved takes what makes its old group ready with it, and brings it to the new one.
func TestMoveTaskWakesGroups(t *testing.T) {
	s := fair.New()
	group(t, s, 1, 0, 1)
	group(t, s, 2, 1, 1)
	group(t, s, 3, 1, 1)
	group(t, s, 4, 0, 1)
	awake(t, s, 0, 2, 1)
	wantRuns(t, s, 0)
	move(t, s, 0, 3)
	wantRuns(t, s, 0)
	freeze(t, s, 3, true)
	wantRuns(t, s, -1)
	move(t, s, 0, 4)
	wantRuns(t, s, 0)
	freeze(t, s, 4, true)
	wantRuns(t, s, -1)
	move(t, s, 0, 2)
	wantRuns(t, s, 0)
	wantErr(t, "DropGroup", s.DropGroup(3), nil)
	wantErr(t, "DropGroup", s.DropGroup(4), nil)
	wantErr(t, "DropGroup", s.DropGroup(2), api.ErrBusy)
}

// C2, Z3: MoveTask tells what is wrong with the task first; then nothing is changed.
func TestMoveTaskErrors(t *testing.T) {
	s := fair.New()
	awake(t, s, 0, 0, 1)
	awake(t, s, 1, 0, 1)
	wantRuns(t, s, 0)
	for _, c := range []struct {
		n, group int
		want     error
	}{
		{-1, 5, api.ErrBound},
		{api.Procs, 0, api.ErrBound},
		{2, -1, api.ErrNone},
		{2, 0, api.ErrNone},
		{0, -1, api.ErrBound},
		{0, api.Groups, api.ErrBound},
		{0, 5, api.ErrNone},
	} {
		wantErr(t, "MoveTask", s.MoveTask(c.n, c.group), c.want)
	}
	wantRuns(t, s, 1, 0, 1)
	wantRan(t, s, 0, 2, nil)
}

// C3: who slept is not ahead by what it slept: it begins at the floor; who has more than that keeps it.
func TestWakeAtTheFloor(t *testing.T) {
	s := fair.New()
	task(t, s, 0, 0, 1)
	awake(t, s, 1, 0, 1)
	wantRuns(t, s, 1, 1, 1, 1, 1)
	wake(t, s, 0, true) // at 4 steps; 1 is at 5
	wantRuns(t, s, 0, 0, 1, 0, 1)
	wake(t, s, 0, false) // at 7 steps, as 1 is
	wake(t, s, 0, true)
	wantRuns(t, s, 0, 1)
	wantRuns(t, s, 0) // at 9 steps; 1 is at 8, and so is the floor
	wake(t, s, 0, false)
	wake(t, s, 0, true)
	wantRuns(t, s, 1, 0, 1)
}

// C3: a group that slept begins at its parent's floor, and the task in it at the group's.
func TestGroupWakesAtTheFloor(t *testing.T) {
	s := fair.New()
	group(t, s, 1, 0, 1)
	group(t, s, 2, 1, 1)
	task(t, s, 0, 2, 1)
	awake(t, s, 1, 0, 1)
	awake(t, s, 2, 1, 1)
	wantRuns(t, s, 2, 1, 2, 1, 2, 1)
	wake(t, s, 2, false)
	wantRuns(t, s, 1, 1, 1) // at 6 steps, the floor at 5, group 1 at 3
	wake(t, s, 0, true)
	wantRuns(t, s, 0, 0, 1, 0, 1) // group 2 begins at 2 of group 1, but group 1 at 5 of the root
	wake(t, s, 2, true)           // at 4 of group 1, where group 2 is at 5
	wantRuns(t, s, 2, 1, 0, 1, 2, 1)
}

// C3: a group that was frozen begins at the floor when it is thawed, and so does one whose quota was raised or taken off.
func TestHeldGroupsComeBackAtTheFloor(t *testing.T) {
	for name, free := range map[string]func(*fair.Sched) error{
		"thawed":    func(s *fair.Sched) error { return s.Freeze(1, false) },
		"given":     func(s *fair.Sched) error { return s.Quota(1, 90, 90) },
		"taken off": func(s *fair.Sched) error { return s.Quota(1, 0, 90) },
	} {
		s := fair.New()
		group(t, s, 1, 0, 1)
		awake(t, s, 0, 1, 1)
		awake(t, s, 1, 0, 1)
		if name == "thawed" {
			wantRuns(t, s, 0)
			freeze(t, s, 1, true)
		} else {
			quota(t, s, 1, 1, 90)
			wantRuns(t, s, 0)
		}
		wantRuns(t, s, 1, 1, 1, 1)
		wantErr(t, name, free(s), nil)
		wantRuns(t, s, 0, 0, 1, 0, 1, 0, 1)
	}
}

// C3: a unit that is ready already is not taken up to the floor by what changes in it.
func TestReadyGroupKeepsItsTime(t *testing.T) {
	s := fair.New()
	group(t, s, 1, 0, 1)
	awake(t, s, 0, 1, 1)
	task(t, s, 1, 1, 1)
	awake(t, s, 2, 0, 1)
	wantRuns(t, s, 0, 2, 0, 2)
	wake(t, s, 1, true)
	quota(t, s, 1, 9, 10)
	quota(t, s, 1, 0, 10)
	wake(t, s, 0, false)
	wantRuns(t, s, 1, 2, 1, 2)
}

// C4: the document's example of two tasks.
func TestTwoTasks(t *testing.T) {
	s := fair.New()
	awake(t, s, 0, 0, 1)
	awake(t, s, 1, 0, 3)
	wantRuns(t, s, 0, 1, 1, 1, 1, 0, 1, 1, 1, 0, 1, 1, 1, 0)
}

// C4: who runs in the document's session.
func TestSession(t *testing.T) {
	s := fair.New()
	awake(t, s, 0, 0, 100)
	group(t, s, 1, 0, 300)
	for n := 1; n < 4; n++ {
		awake(t, s, n, 1, 100)
	}
	wantRuns(t, s, 1, 0, 2, 3, 1, 0)
	quota(t, s, 1, 1, 3)
	wantRuns(t, s, 2, 0, 0, 3, 0, 0)
}

// C4: of equal virtual times a group is ahead of a task, and the least number of its kind is first.
func TestTies(t *testing.T) {
	s := fair.New()
	awake(t, s, 7, 0, 1)
	awake(t, s, 0, 0, 1)
	for _, n := range []int{9, 3, 5} {
		group(t, s, n, 0, 1)
		awake(t, s, 20-n, n, 1)
	}
	wantRuns(t, s, 17, 15, 11, 0, 7, 17, 15, 11, 0, 7)
}

// C4: a step is rounded down, so that small differences come to be seen late, but are.
func TestStepsAreRoundedDown(t *testing.T) {
	s := fair.New()
	awake(t, s, 0, 0, api.MaxWeight) // 1048 of 1048.576
	awake(t, s, 1, 0, 1)             // 1048576, no rest
	runs(s, 1+1000+1)
	wantRan(t, s, 0, 1001, nil) // 1001 times 1048 is 1049048, but 1000 times is below 1048576
	wantRan(t, s, 1, 1, nil)
	u := fair.New()
	awake(t, u, 0, 0, 1)
	awake(t, u, 1, 0, 3)
	runs(u, 5) // 4 times 349525
	wantRan(t, u, 1, 4, nil)
}

// C3, C4: a floor stays when all sleep, and who was never awake begins there, too.
func TestFloorStays(t *testing.T) {
	s := fair.New()
	awake(t, s, 0, 0, 1)
	task(t, s, 1, 0, 1)
	wantRuns(t, s, 0, 0, 0)
	wake(t, s, 0, false)
	wantRuns(t, s, -1, -1)
	wake(t, s, 1, true) // at 2 steps
	wantRuns(t, s, 1)
	wake(t, s, 1, false)
	task(t, s, 2, 0, 1)
	wake(t, s, 2, true)
	wake(t, s, 0, true)
	wake(t, s, 1, true)
	wantRuns(t, s, 2, 0, 1, 2)
}

// C4: ticks in which nobody runs go by, too, and begin periods.
func TestIdleTicks(t *testing.T) {
	s := fair.New()
	group(t, s, 1, 0, 1)
	quota(t, s, 1, 1, api.MaxPeriod)
	awake(t, s, 0, 1, 1)
	want := make([]int, api.MaxPeriod)
	for i := range want {
		want[i] = -1
	}
	want[0] = 0
	wantRuns(t, s, want...)
	wantRuns(t, s, want...)
	wake(t, s, 0, false)
	wantRuns(t, s, -1)
	wake(t, s, 0, true)
	wantRuns(t, s, 0, -1)
}

// taskCalls: the errors of all calls that name the task n, but for AddTask.
func taskCalls(s *fair.Sched, n int) []error {
	ran, err := s.Ran(n)
	if ran != 0 {
		err = nil
	}
	return []error{err, s.DropTask(n), s.MoveTask(n, 0), s.MoveTask(n, 1), s.MoveTask(n, -1), s.Wake(n, true), s.Wake(n, false)}
}

// groupCalls: the errors of all calls that name the group n; 0 is a task, 2 is none.
func groupCalls(s *fair.Sched, n int) []error {
	return []error{s.AddGroup(2, n, 1), s.DropGroup(n), s.AddTask(2, n, 1), s.MoveTask(0, n), s.Freeze(n, true),
		s.Freeze(n, false), s.Quota(n, 1, 2), s.Quota(n, -1, 0)}
}

func wantAllErrs(t *testing.T, what string, n int, errs []error, want error) {
	t.Helper()
	for i, err := range errs {
		if err != want {
			t.Errorf("call %d of the %s %d: %v, want %v", i, what, n, err, want)
		}
	}
}

// C1, Z1, Z3: wrong numbers are told bare, with noughts, and change nothing.
func TestWrongNumbers(t *testing.T) {
	s := fair.New()
	group(t, s, 1, 0, 1)
	awake(t, s, 0, 1, 1)
	awake(t, s, 1, 0, 2)
	wantRuns(t, s, 0, 1)
	for _, n := range strange {
		wantAllErrs(t, "task", n, taskCalls(s, n), api.ErrBound)
		wantAllErrs(t, "group", n, groupCalls(s, n), api.ErrBound)
		wantErr(t, "AddTask", s.AddTask(n, 0, 1), api.ErrBound)
		wantErr(t, "AddGroup", s.AddGroup(n, 0, 1), api.ErrBound)
	}
	for n := 2; n < api.Procs; n++ {
		wantAllErrs(t, "task", n, taskCalls(s, n), api.ErrNone)
	}
	for n := 2; n < api.Groups; n++ {
		wantAllErrs(t, "group", n, groupCalls(s, n), api.ErrNone)
	}
	for n := api.Groups; n < api.Procs; n++ {
		wantAllErrs(t, "group", n, groupCalls(s, n), api.ErrBound)
	}
	wantRan(t, s, 0, 1, nil)
	wantRuns(t, s, 1, 0, 1, 1, 0)
}

// Z2: scheds have nothing in common.
func TestApart(t *testing.T) {
	a, b := fair.New(), fair.New()
	group(t, a, 1, 0, 1)
	awake(t, a, 0, 1, 1)
	wantRuns(t, a, 0, 0)
	if b.Now() != 0 {
		t.Errorf("Now(): %d, want 0", b.Now())
	}
	wantErr(t, "DropGroup", b.DropGroup(1), api.ErrNone)
	wantRan(t, b, 0, 0, api.ErrNone)
	wantRuns(t, b, -1)
	awake(t, b, 0, 0, 1)
	freeze(t, a, 1, true)
	wantRuns(t, b, 0)
	wantRuns(t, a, -1)
	wantRan(t, a, 0, 2, nil)
}
