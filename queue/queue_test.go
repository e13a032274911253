package queue_test

import (
	"math"
	"slices"
	"testing"

	"wardroom/api"
	"wardroom/queue"
)

// strange: numbers that no queue takes.
var strange = []int{-1, api.MaxIDs, api.MaxIDs + 1, math.MinInt, math.MaxInt, math.MinInt32, math.MaxInt32, 1 << 32}

func put(t *testing.T, q *queue.Queue, id int, key uint64) {
	t.Helper()
	if err := q.Put(id, key); err != nil {
		t.Fatalf("Put(%d, %d): %v", id, key, err)
	}
}

func wantAll(t *testing.T, q *queue.Queue, want ...int) {
	t.Helper()
	if got := q.All(); !slices.Equal(got, want) {
		t.Errorf("All(): %v, want %v", got, want)
	}
	if got := q.Len(); got != len(want) {
		t.Errorf("Len(): %d, want %d", got, len(want))
	}
}

func wantFirst(t *testing.T, q *queue.Queue, id int, key uint64, is bool) {
	t.Helper()
	if i, k, ok := q.First(); i != id || k != key || ok != is {
		t.Errorf("First(): %d %d %v, want %d %d %v", i, k, ok, id, key, is)
	}
}

func wantKey(t *testing.T, q *queue.Queue, id int, key uint64, want error) {
	t.Helper()
	if k, err := q.Key(id); k != key || err != want {
		t.Errorf("Key(%d): %d %v, want %d %v", id, k, err, key, want)
	}
}

func wantCut(t *testing.T, q *queue.Queue, id int, key uint64, want error) {
	t.Helper()
	if k, err := q.Cut(id); k != key || err != want {
		t.Errorf("Cut(%d): %d %v, want %d %v", id, k, err, key, want)
	}
}

// A1: the zero value is a queue without any.
func TestZeroValueIsEmpty(t *testing.T) {
	var q queue.Queue
	wantFirst(t, &q, 0, 0, false)
	wantAll(t, &q)
	for id := range api.MaxIDs {
		wantKey(t, &q, id, 0, api.ErrNone)
		wantCut(t, &q, id, 0, api.ErrNone)
	}
}

// A1: the least key is first, and of several the least number; All goes on in that order.
func TestOrder(t *testing.T) {
	var q queue.Queue
	put(t, &q, 5, 7)
	wantFirst(t, &q, 5, 7, true)
	put(t, &q, 9, 7)
	wantFirst(t, &q, 5, 7, true)
	put(t, &q, 3, 7)
	wantFirst(t, &q, 3, 7, true)
	put(t, &q, 63, 2)
	wantFirst(t, &q, 63, 2, true)
	put(t, &q, 0, math.MaxUint64)
	put(t, &q, 1, math.MaxInt64+1)
	put(t, &q, 40, 0)
	wantAll(t, &q, 40, 63, 3, 5, 9, 1, 0)
	wantCut(t, &q, 40, 0, nil)
	wantCut(t, &q, 5, 7, nil)
	wantAll(t, &q, 63, 3, 9, 1, 0)
	wantFirst(t, &q, 63, 2, true)
	put(t, &q, 5, 1)
	wantAll(t, &q, 5, 63, 3, 9, 1, 0)
}

// A1: whoever is cut, the others go on in order: of seven each one once, then the rest from the front.
func TestOrderBehindCut(t *testing.T) {
	for out := range 7 {
		var q queue.Queue
		for id, key := range []uint64{0, 10, 1, 11, 12, 2, 3} {
			put(t, &q, id, key)
		}
		rest := slices.DeleteFunc([]int{0, 2, 5, 6, 1, 3, 4}, func(id int) bool { return id == out })
		if _, err := q.Cut(out); err != nil {
			t.Fatalf("Cut(%d): %v", out, err)
		}
		drain(t, &q, rest)
	}
}

// drain: who is first, and behind it, till none is left.
func drain(t *testing.T, q *queue.Queue, want []int) {
	t.Helper()
	for _, id := range want {
		key, _ := q.Key(id)
		wantFirst(t, q, id, key, true)
		wantCut(t, q, id, key, nil)
	}
	wantFirst(t, q, 0, 0, false)
	wantAll(t, q)
}

// A1: Key tells and leaves, Cut tells and takes out.
func TestKeyAndCut(t *testing.T) {
	var q queue.Queue
	put(t, &q, 0, 0)
	put(t, &q, api.MaxIDs-1, math.MaxUint64)
	wantKey(t, &q, 0, 0, nil)
	wantKey(t, &q, api.MaxIDs-1, math.MaxUint64, nil)
	wantAll(t, &q, 0, api.MaxIDs-1)
	wantCut(t, &q, api.MaxIDs-1, math.MaxUint64, nil)
	wantKey(t, &q, api.MaxIDs-1, 0, api.ErrNone)
	wantCut(t, &q, api.MaxIDs-1, 0, api.ErrNone)
	wantAll(t, &q, 0)
	wantCut(t, &q, 0, 0, nil)
	wantFirst(t, &q, 0, 0, false)
}

// A1, Z1: every number has room; a number that is in it keeps its key.
func TestFull(t *testing.T) {
	var q queue.Queue
	var falling []int
	for id := range api.MaxIDs {
		put(t, &q, id, uint64(api.MaxIDs-id))
		falling = append([]int{id}, falling...)
	}
	for id := range api.MaxIDs {
		if err := q.Put(id, 0); err != api.ErrExist {
			t.Errorf("Put(%d) again: %v, want ErrExist", id, err)
		}
		wantKey(t, &q, id, uint64(api.MaxIDs-id), nil)
	}
	wantAll(t, &q, falling...)
	for _, id := range falling {
		wantFirst(t, &q, id, uint64(api.MaxIDs-id), true)
		wantCut(t, &q, id, uint64(api.MaxIDs-id), nil)
	}
	wantAll(t, &q)
}

// Z1, Z3: wrong numbers are answered by a bare ErrBound, with noughts, and change nothing.
func TestWrongNumbers(t *testing.T) {
	var empty, some queue.Queue
	put(t, &some, 4, 1)
	put(t, &some, 2, 8)
	for _, q := range []*queue.Queue{&empty, &some} {
		for _, id := range strange {
			if err := q.Put(id, 1); err != api.ErrBound {
				t.Errorf("Put(%d): %v, want ErrBound", id, err)
			}
			wantKey(t, q, id, 0, api.ErrBound)
			wantCut(t, q, id, 0, api.ErrBound)
		}
	}
	wantAll(t, &empty)
	wantAll(t, &some, 4, 2)
}

// Z2: a list that came out is the caller's.
func TestAllIsFresh(t *testing.T) {
	var q queue.Queue
	put(t, &q, 1, 1)
	put(t, &q, 2, 2)
	put(t, &q, 3, 3)
	one, two := q.All(), q.All()
	one[0], one[1], one[2] = 9, 9, 9
	_ = append(one[:1], 8, 8, 8, 8)
	if !slices.Equal(two, []int{1, 2, 3}) {
		t.Errorf("a list changed with another one: %v", two)
	}
	wantAll(t, &q, 1, 2, 3)
	wantFirst(t, &q, 1, 1, true)
	wantCut(t, &q, 1, 1, nil)
	if !slices.Equal(two, []int{1, 2, 3}) {
		t.Errorf("a list changed with the queue: %v", two)
	}
}

// Z2: queues have nothing in common.
func TestQueuesAreApart(t *testing.T) {
	var a, b queue.Queue
	put(t, &a, 1, 1)
	wantAll(t, &b)
	put(t, &b, 1, 5)
	wantCut(t, &a, 1, 1, nil)
	wantFirst(t, &b, 1, 5, true)
}

// plain: a queue that looks through all it has each time.
type plain map[int]uint64

func (p plain) all() []int {
	ids := []int{}
	for id := range p {
		ids = append(ids, id)
	}
	slices.SortFunc(ids, func(a, b int) int {
		if p[a] < p[b] || p[a] == p[b] && a < b {
			return -1
		}
		return 1
	})
	return ids
}

func (p plain) put(id int, key uint64) error {
	if id < 0 || id >= api.MaxIDs {
		return api.ErrBound
	}
	if _, is := p[id]; is {
		return api.ErrExist
	}
	p[id] = key
	return nil
}

func (p plain) key(id int) (uint64, error) {
	if id < 0 || id >= api.MaxIDs {
		return 0, api.ErrBound
	}
	if key, is := p[id]; is {
		return key, nil
	}
	return 0, api.ErrNone
}

// dice: the same row of numbers each time.
type dice uint64

func (d *dice) roll(most int) int {
	*d = *d*6364136223846793005 + 1442695040888963407
	return int(uint64(*d>>33) % uint64(most))
}

// A1: long rows of acts are answered as a plain queue answers them.
func TestAgainstPlain(t *testing.T) {
	d := dice(1)
	for round := range 60 {
		q, p := &queue.Queue{}, plain{}
		numbers := []int{3, 10, 30, api.MaxIDs}[round%4]
		for range 400 {
			act(t, q, p, d.roll(numbers+2)-1, uint64(d.roll([]int{5, 500}[round%2])), d.roll(8))
			all := p.all()
			wantAll(t, q, all...)
			if len(all) == 0 {
				wantFirst(t, q, 0, 0, false)
			} else {
				wantFirst(t, q, all[0], p[all[0]], true)
			}
			if t.Failed() {
				t.FailNow()
			}
		}
		drain(t, q, p.all())
	}
}

func act(t *testing.T, q *queue.Queue, p plain, id int, key uint64, which int) {
	t.Helper()
	has, wrong := p.key(id)
	switch {
	case which < 4:
		want := p.put(id, key)
		if err := q.Put(id, key); err != want {
			t.Errorf("Put(%d, %d): %v, want %v", id, key, err, want)
		}
	case which < 7:
		delete(p, id)
		wantCut(t, q, id, has, wrong)
	default:
		wantKey(t, q, id, has, wrong)
	}
}
