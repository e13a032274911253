package spaces_test

import (
	"fmt"
	"math"
	"slices"
	"testing"

	"wardroom/api"
	"wardroom/spaces"
)

// Numbers that are no space's, no process's, and nobody's in a space.
var (
	far          = []int{-1, -2, math.MinInt, math.MaxInt, math.MinInt32, math.MaxInt32, 1 << 32}
	strangeSpace = append([]int{api.Spaces, api.Spaces + 1}, far...)
	strangeProc  = append([]int{api.Procs, api.Procs + 1}, far...)
	strangePid   = append([]int{0, api.Procs + 1, api.Procs + 2}, far...)
)

func wantErr(t *testing.T, what string, err, want error) {
	t.Helper()
	if err != want {
		t.Errorf("%s: %v, want %v", what, err, want)
	}
}

// wantNum: a number and no error, or an error and 0.
func wantNum(t *testing.T, what string, got int, err error, want int, fault error) {
	t.Helper()
	if got != want || err != fault {
		t.Errorf("%s: %d %v, want %d %v", what, got, err, want, fault)
	}
}

func add(t *testing.T, s *spaces.Table, parent, want int) {
	t.Helper()
	if n, err := s.Add(parent); n != want || err != nil {
		t.Fatalf("Add(%d): %d %v, want %d", parent, n, err, want)
	}
}

func enter(t *testing.T, s *spaces.Table, n, proc, want int) {
	t.Helper()
	if pid, err := s.Enter(n, proc); pid != want || err != nil {
		t.Fatalf("Enter(%d, %d): %d %v, want %d", n, proc, pid, err, want)
	}
}

func leave(t *testing.T, s *spaces.Table, proc int) {
	t.Helper()
	if err := s.Leave(proc); err != nil {
		t.Fatalf("Leave(%d): %v", proc, err)
	}
}

func wantAdd(t *testing.T, s *spaces.Table, parent int, want error) {
	t.Helper()
	n, err := s.Add(parent)
	wantNum(t, fmt.Sprintf("Add(%d)", parent), n, err, 0, want)
}

func wantEnter(t *testing.T, s *spaces.Table, n, proc int, want error) {
	t.Helper()
	pid, err := s.Enter(n, proc)
	wantNum(t, fmt.Sprintf("Enter(%d, %d)", n, proc), pid, err, 0, want)
}

func wantOf(t *testing.T, s *spaces.Table, proc, want int, fault error) {
	t.Helper()
	n, err := s.Of(proc)
	wantNum(t, fmt.Sprintf("Of(%d)", proc), n, err, want, fault)
}

func wantPid(t *testing.T, s *spaces.Table, proc, n, want int, fault error) {
	t.Helper()
	pid, err := s.Pid(proc, n)
	wantNum(t, fmt.Sprintf("Pid(%d, %d)", proc, n), pid, err, want, fault)
}

func wantFind(t *testing.T, s *spaces.Table, n, pid, want int, fault error) {
	t.Helper()
	proc, err := s.Find(n, pid)
	wantNum(t, fmt.Sprintf("Find(%d, %d)", n, pid), proc, err, want, fault)
}

func wantMembers(t *testing.T, s *spaces.Table, n int, want ...int) {
	t.Helper()
	if got, err := s.Members(n); !slices.Equal(got, want) || err != nil {
		t.Errorf("Members(%d): %v %v, want %v", n, got, err, want)
	}
}

func wantNoMembers(t *testing.T, s *spaces.Table, n int, want error) {
	t.Helper()
	if got, err := s.Members(n); len(got) != 0 || err != want {
		t.Errorf("Members(%d): %v %v, want none and %v", n, got, err, want)
	}
}

func wantAll(t *testing.T, s *spaces.Table, want ...int) {
	t.Helper()
	if got := s.All(); !slices.Equal(got, want) {
		t.Errorf("All(): %v, want %v", got, want)
	}
}

// state: all that a table tells of itself.
func state(s *spaces.Table) string {
	all := fmt.Sprint(s.All())
	for proc := range api.Procs {
		n, err := s.Of(proc)
		all += fmt.Sprint(";", n, err)
	}
	for n := range api.Spaces {
		procs, err := s.Members(n)
		all += fmt.Sprint(";", procs, err)
		for proc := range api.Procs {
			pid, err := s.Pid(proc, n)
			all += fmt.Sprint(" ", pid, err)
		}
		for pid := range api.Procs + 2 {
			proc, err := s.Find(n, pid)
			all += fmt.Sprint(" ", proc, err)
		}
	}
	return all
}

// D1: the root alone is there from the beginning on, without processes.
func TestNew(t *testing.T) {
	s := spaces.New()
	wantAll(t, s, 0)
	wantMembers(t, s, 0)
	for proc := range api.Procs {
		wantOf(t, s, proc, 0, api.ErrNone)
		wantPid(t, s, proc, 0, 0, api.ErrNone)
		wantFind(t, s, 0, 1+proc, 0, api.ErrNone)
	}
	for n := 1; n < api.Spaces; n++ {
		wantNoMembers(t, s, n, api.ErrNone)
	}
}

// D1: a new space has the lowest free number; all are told rising.
func TestAdd(t *testing.T) {
	s := spaces.New()
	for n := 1; n < api.Spaces; n++ {
		add(t, s, 0, n)
		wantMembers(t, s, n)
	}
	wantAll(t, s, 0, 1, 2, 3, 4, 5)
	wantAdd(t, s, 0, api.ErrFull)
	wantErr(t, "Drop(4)", s.Drop(4), nil)
	wantErr(t, "Drop(2)", s.Drop(2), nil)
	wantAll(t, s, 0, 1, 3, 5)
	add(t, s, 5, 2)
	add(t, s, 2, 4)
	wantAll(t, s, 0, 1, 2, 3, 4, 5)
}

// D1, Z3: Deep spaces stand one below the other, the root among them, and no more; that is told ahead of ErrFull.
func TestAddDeep(t *testing.T) {
	s := spaces.New()
	for n := 1; n < api.Deep; n++ {
		add(t, s, n-1, n)
	}
	wantAdd(t, s, api.Deep-1, api.ErrDeep)
	add(t, s, api.Deep-2, api.Deep)
	wantAdd(t, s, api.Deep, api.ErrDeep)
	add(t, s, 0, api.Deep+1)
	wantAdd(t, s, api.Deep, api.ErrDeep)
	wantAdd(t, s, 0, api.ErrFull)
}

// D1: a space that was dropped leaves nothing: its number is free, and its depth is the new one's own.
func TestAddAgain(t *testing.T) {
	s := spaces.New()
	add(t, s, 0, 1)
	add(t, s, 1, 2)
	add(t, s, 2, 3)
	enter(t, s, 3, 7, 1)
	leave(t, s, 7)
	wantErr(t, "Drop(3)", s.Drop(3), nil)
	add(t, s, 0, 3)
	wantMembers(t, s, 3)
	add(t, s, 3, 4)
	enter(t, s, 3, 7, 1)
	wantPid(t, s, 7, 1, 0, api.ErrNone)
	wantPid(t, s, 7, 2, 0, api.ErrNone)
}

// D1: the root, a space in which a process has a number, and one above another one stay.
func TestDrop(t *testing.T) {
	s := spaces.New()
	wantErr(t, "Drop(0)", s.Drop(0), api.ErrBusy)
	add(t, s, 0, 1)
	add(t, s, 1, 2)
	enter(t, s, 2, 19, 1)
	for n := range 3 {
		wantErr(t, fmt.Sprintf("Drop(%d) with a process", n), s.Drop(n), api.ErrBusy)
	}
	leave(t, s, 19)
	wantErr(t, "Drop(1) above 2", s.Drop(1), api.ErrBusy)
	wantAll(t, s, 0, 1, 2)
	wantErr(t, "Drop(2)", s.Drop(2), nil)
	wantErr(t, "Drop(2) again", s.Drop(2), api.ErrNone)
	enter(t, s, 0, 19, 1)
	wantErr(t, "Drop(1) beside a process", s.Drop(1), nil)
	wantAll(t, s, 0)
	wantErr(t, "Drop(0)", s.Drop(0), api.ErrBusy)
}

// D2: a process has a number in its space and in each above it, the lowest that nobody has there, from 1 on.
func TestEnter(t *testing.T) {
	s := spaces.New()
	add(t, s, 0, 1)
	add(t, s, 1, 2)
	add(t, s, 0, 3)
	enter(t, s, 0, 9, 1)
	enter(t, s, 2, 5, 1)
	enter(t, s, 1, 0, 2)
	enter(t, s, 3, 19, 1)
	enter(t, s, 2, 7, 2)

	wantMembers(t, s, 0, 9, 5, 0, 19, 7)
	wantMembers(t, s, 1, 5, 0, 7)
	wantMembers(t, s, 2, 5, 7)
	wantMembers(t, s, 3, 19)
	wantOf(t, s, 5, 2, nil)
	wantOf(t, s, 0, 1, nil)
	wantOf(t, s, 9, 0, nil)
	wantPid(t, s, 7, 2, 2, nil)
	wantPid(t, s, 7, 1, 3, nil)
	wantPid(t, s, 7, 0, 5, nil)
	wantPid(t, s, 7, 3, 0, api.ErrNone)
	wantPid(t, s, 0, 2, 0, api.ErrNone)
	wantFind(t, s, 0, 3, 0, nil)
	wantFind(t, s, 1, 3, 7, nil)
	wantFind(t, s, 2, 3, 0, api.ErrNone)
}

// D2: who left has no number anywhere; the lowest of those that are free are given anew, in each space its own.
func TestLeave(t *testing.T) {
	s := spaces.New()
	add(t, s, 0, 1)
	for proc := range 4 {
		enter(t, s, 1, proc, 1+proc)
	}
	leave(t, s, 2)
	leave(t, s, 0)
	wantOf(t, s, 0, 0, api.ErrNone)
	for n := range 2 {
		wantPid(t, s, 0, n, 0, api.ErrNone)
		wantFind(t, s, n, 1, 0, api.ErrNone)
		wantMembers(t, s, n, 1, 3)
	}
	wantErr(t, "Leave(0) again", s.Leave(0), api.ErrNone)
	enter(t, s, 0, 8, 1)
	enter(t, s, 1, 0, 1)
	wantPid(t, s, 0, 0, 3, nil)
	enter(t, s, 1, 2, 3)
	wantPid(t, s, 2, 0, 5, nil)
	wantMembers(t, s, 0, 8, 1, 0, 3, 2)
	wantMembers(t, s, 1, 0, 1, 2, 3)
}

// D2: all processes find room in one space; the last has the number Procs.
func TestEnterAll(t *testing.T) {
	s := spaces.New()
	add(t, s, 0, 1)
	var want []int
	for i := range api.Procs {
		proc := api.Procs - 1 - i
		enter(t, s, 1, proc, 1+i)
		want = append(want, proc)
	}
	wantMembers(t, s, 0, want...)
	wantMembers(t, s, 1, want...)
	wantFind(t, s, 1, api.Procs, 0, nil)
	wantFind(t, s, 1, api.Procs+1, 0, api.ErrNone)
	wantPid(t, s, 0, 0, api.Procs, nil)
}

// D2: a process is in one space at most, whichever it is to enter.
func TestEnterTwice(t *testing.T) {
	s := spaces.New()
	add(t, s, 0, 1)
	add(t, s, 1, 2)
	enter(t, s, 1, 3, 1)
	was := state(s)
	for n := range 3 {
		wantEnter(t, s, n, 3, api.ErrExist)
	}
	if now := state(s); now != was {
		t.Errorf("a call that was refused changed %s to %s", was, now)
	}
}

// D1, D2, Z1, Z3: numbers that are no space's, no process's, nobody's are told, and change nothing.
func TestStrange(t *testing.T) {
	s := spaces.New()
	add(t, s, 0, 1)
	enter(t, s, 1, 3, 1)
	was := state(s)
	for _, n := range strangeSpace {
		wantWrongSpace(t, s, n, api.ErrBound)
	}
	for n := 2; n < api.Spaces; n++ {
		wantWrongSpace(t, s, n, api.ErrNone)
	}
	for _, proc := range strangeProc {
		wantEnter(t, s, 0, proc, api.ErrBound)
		wantErr(t, fmt.Sprintf("Leave(%d)", proc), s.Leave(proc), api.ErrBound)
		wantOf(t, s, proc, 0, api.ErrBound)
		wantPid(t, s, proc, 0, 0, api.ErrBound)
	}
	for _, pid := range strangePid {
		wantFind(t, s, 1, pid, 0, api.ErrNone)
	}
	if now := state(s); now != was {
		t.Errorf("calls that were refused changed %s to %s", was, now)
	}
}

// wantWrongSpace: what is wrong with a space is told ahead of what is wrong with a process, be it none or in a space already.
func wantWrongSpace(t *testing.T, s *spaces.Table, n int, want error) {
	t.Helper()
	wantAdd(t, s, n, want)
	wantErr(t, fmt.Sprintf("Drop(%d)", n), s.Drop(n), want)
	for _, proc := range []int{0, 3, -1, api.Procs} {
		wantEnter(t, s, n, proc, want)
		wantPid(t, s, proc, n, 0, want)
	}
	wantFind(t, s, n, 1, 0, want)
	wantFind(t, s, n, -1, 0, want)
	wantNoMembers(t, s, n, want)
}

// Z2: a list that came out is the caller's: what he writes into it changes no table and no other list.
func TestFresh(t *testing.T) {
	s := spaces.New()
	add(t, s, 0, 1)
	for proc := range 5 {
		enter(t, s, 1, proc, 1+proc)
	}
	was := state(s)
	for _, list := range [][]int{s.All(), members(t, s, 0), members(t, s, 1)} {
		all, one := s.All(), members(t, s, 1)
		list = list[:cap(list)]
		for i := range list {
			list[i] = 77
		}
		if slices.Contains(all, 77) || slices.Contains(one, 77) {
			t.Errorf("two lists share memory: %v %v", all, one)
		}
	}
	if now := state(s); now != was {
		t.Errorf("writing into a list changed %s to %s", was, now)
	}
}

func members(t *testing.T, s *spaces.Table, n int) []int {
	t.Helper()
	list, err := s.Members(n)
	if err != nil {
		t.Fatalf("Members(%d): %v", n, err)
	}
	return list
}

// Z2: tables know nothing of each other.
func TestApart(t *testing.T) {
	s, other := spaces.New(), spaces.New()
	was := state(other)
	add(t, s, 0, 1)
	enter(t, s, 1, 0, 1)
	if now := state(other); now != was {
		t.Errorf("one table changed another one: %s to %s", was, now)
	}
}
