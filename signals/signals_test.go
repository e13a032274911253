package signals_test

import (
	"fmt"
	"math"
	"testing"

	"wardroom/api"
	"wardroom/signals"
)

// Numbers that are no signal's.
var strange = []int{0, -1, -2, api.Signals + 1, api.Signals + 2, math.MinInt, math.MaxInt, math.MinInt32, math.MaxInt32, 1<<32 + 1, 1 << 32, -1 << 32, 257}

// Numbers that are no way to be done with.
var strangeHows = []int{-1, -2, 3, 4, math.MinInt, math.MaxInt, math.MinInt32, math.MaxInt32, 1 << 32, 256}

var hows = []int{api.Default, api.Ignore, api.Catch}

// all signals, and those that aren't Kill, or neither Kill nor Kid.
func all() []int      { return from(1) }
func notKill() []int  { return from(1, api.Kill) }
func ordinary() []int { return from(1, api.Kill, api.Kid) }

func from(first int, but ...int) []int {
	var l []int
next:
	for n := first; n <= api.Signals; n++ {
		for _, x := range but {
			if n == x {
				continue next
			}
		}
		l = append(l, n)
	}
	return l
}

func wantSend(t *testing.T, b *signals.Box, n int, fault error) {
	t.Helper()
	if err := b.Send(n); err != fault {
		t.Errorf("Send(%d): %v, want %v", n, err, fault)
	}
}

func wantHold(t *testing.T, b *signals.Box, n int, on bool, fault error) {
	t.Helper()
	if err := b.Hold(n, on); err != fault {
		t.Errorf("Hold(%d, %t): %v, want %v", n, on, err, fault)
	}
}

func wantHow(t *testing.T, b *signals.Box, n, how int, fault error) {
	t.Helper()
	if err := b.How(n, how); err != fault {
		t.Errorf("How(%d, %d): %v, want %v", n, how, err, fault)
	}
}

// wantEnds: that signal; 0: there is none.
func wantEnds(t *testing.T, b *signals.Box, want int) {
	t.Helper()
	if n, is := b.Ends(); n != want || is != (want > 0) {
		t.Errorf("Ends(): %d %t, want %d %t", n, is, want, want > 0)
	}
}

// wantTake: that signal; 0: there is none.
func wantTake(t *testing.T, b *signals.Box, want int) {
	t.Helper()
	if n, is := b.Take(); n != want || is != (want > 0) {
		t.Errorf("Take(): %d %t, want %d %t", n, is, want, want > 0)
	}
}

// wantWaits: these wait, and no others.
func wantWaits(t *testing.T, b *signals.Box, which ...int) {
	t.Helper()
	want := map[int]bool{}
	for _, n := range which {
		want[n] = true
	}
	for _, n := range append(all(), strange...) {
		if got := b.Waits(n); got != want[n] {
			t.Errorf("Waits(%d): %t, want %t", n, got, want[n])
		}
	}
}

// state: all that a box is: what it tells of itself, and what children of it do when each signal is sent to them.
func state(b *signals.Box) string {
	n, is := b.Ends()
	s := fmt.Sprint("ends ", n, " ", is)
	for _, n := range all() {
		s += fmt.Sprintf("; %d: waits %t, %s, then %s", n, b.Waits(n), tried(b.Child(), n, false), tried(b.Child(), n, true))
	}
	return s
}

// tried: what comes of a signal in a box that is thrown away, as it is held back, or when it is let go.
func tried(b *signals.Box, n int, loose bool) string {
	if loose {
		_ = b.Hold(n, false)
	}
	_ = b.Send(n)
	waits := b.Waits(n)
	ends, _ := b.Ends()
	take, _ := b.Take()
	return fmt.Sprint(waits, ends == n, take == n)
}

func wantSame(t *testing.T, b *signals.Box, was string) {
	t.Helper()
	if got := state(b); got != was {
		t.Errorf("the box is\n%s, was\n%s", got, was)
	}
}

// mixed: a box with some signals of each sort.
func mixed(t *testing.T) *signals.Box {
	t.Helper()
	b := &signals.Box{}
	wantHow(t, b, 3, api.Catch, nil)
	wantHow(t, b, 4, api.Catch, nil)
	wantHow(t, b, 5, api.Ignore, nil)
	wantHow(t, b, 8, api.Ignore, nil)
	wantHold(t, b, 4, true, nil)
	wantHold(t, b, 6, true, nil)
	wantHold(t, b, 8, true, nil)
	for _, n := range []int{2, 3, 4, 6} {
		wantSend(t, b, n, nil)
	}
	wantWaits(t, b, 2, 3, 4, 6)
	return b
}

// L1: in the zero value none waits, none is held back, each is Default; and there each signal but Kid may be sent.
func TestZeroValue(t *testing.T) {
	var empty signals.Box
	wantWaits(t, &empty)
	wantEnds(t, &empty, 0)
	wantTake(t, &empty, 0)
	for _, n := range all() {
		var b signals.Box
		wantSend(t, &b, n, nil)
		wantTake(t, &b, 0)
		if n == api.Kid {
			wantWaits(t, &b)
			wantEnds(t, &b, 0)
			continue
		}
		wantWaits(t, &b, n)
		wantEnds(t, &b, n)
	}
}

// L1, Z1: of numbers that are no signal's ErrBound is told, whatever else is wrong, and nothing is changed.
func TestNoSignal(t *testing.T) {
	for _, b := range []*signals.Box{{}, mixed(t)} {
		was := state(b)
		for _, n := range strange {
			wantSend(t, b, n, api.ErrBound)
			wantHold(t, b, n, true, api.ErrBound)
			wantHold(t, b, n, false, api.ErrBound)
			for _, how := range append(hows, strangeHows...) {
				wantHow(t, b, n, how, api.ErrBound)
			}
			if b.Waits(n) {
				t.Errorf("Waits(%d): true, and it is no signal", n)
			}
		}
		wantSame(t, b, was)
	}
}

// L1: the first signal and the last one are signals, and those beside them are none.
func TestFirstAndLast(t *testing.T) {
	var b signals.Box
	wantSend(t, &b, 0, api.ErrBound)
	wantSend(t, &b, 9, api.ErrBound)
	wantSend(t, &b, 8, nil)
	wantWaits(t, &b, 8)
	wantEnds(t, &b, 8)
	wantSend(t, &b, 1, nil)
	wantWaits(t, &b, 1, 8)
	wantEnds(t, &b, 1)
	wantHow(t, &b, 8, api.Catch, nil)
	wantTake(t, &b, 8)
	wantWaits(t, &b, 1)
}

// L1: a signal waits once, however often it is sent.
func TestSendTwice(t *testing.T) {
	for _, n := range ordinary() {
		var b signals.Box
		wantHow(t, &b, n, api.Catch, nil)
		for range 3 {
			wantSend(t, &b, n, nil)
			wantWaits(t, &b, n)
		}
		wantTake(t, &b, n)
		wantWaits(t, &b)
		wantTake(t, &b, 0)
	}
}

// L1: what is ignored doesn't wait when it is sent, held back or not.
func TestSendIgnored(t *testing.T) {
	for _, n := range notKill() {
		for _, held := range []bool{false, true} {
			var b signals.Box
			wantHold(t, &b, n, held, nil)
			wantHow(t, &b, n, api.Ignore, nil)
			wantSend(t, &b, n, nil)
			wantWaits(t, &b)
			wantHold(t, &b, n, false, nil)
			wantHow(t, &b, n, api.Catch, nil)
			wantTake(t, &b, 0)
			wantSend(t, &b, n, nil)
			wantTake(t, &b, n)
		}
	}
}

// L1: Kid is ignored as Default, too, and waits just if it is Catch.
func TestKid(t *testing.T) {
	for _, held := range []bool{false, true} {
		for _, how := range hows {
			var b signals.Box
			wantHold(t, &b, api.Kid, held, nil)
			wantHow(t, &b, api.Kid, how, nil)
			wantSend(t, &b, api.Kid, nil)
			wantEnds(t, &b, 0)
			if how != api.Catch {
				wantWaits(t, &b)
				continue
			}
			wantWaits(t, &b, api.Kid)
			wantHold(t, &b, api.Kid, false, nil)
			wantTake(t, &b, api.Kid)
			wantWaits(t, &b)
		}
	}
}

// L1: a signal that comes to be ignored waits no more, and none comes back when it isn't ignored any longer.
func TestHowIgnored(t *testing.T) {
	for _, n := range notKill() {
		for _, how := range hows {
			for _, held := range []bool{false, true} {
				var b signals.Box
				wantHow(t, &b, n, api.Catch, nil)
				wantHold(t, &b, n, held, nil)
				wantSend(t, &b, n, nil)
				wantHow(t, &b, n, how, nil)
				if how == api.Ignore || n == api.Kid && how == api.Default {
					wantWaits(t, &b)
				} else {
					wantWaits(t, &b, n)
				}
				waits := b.Waits(n)
				wantHow(t, &b, n, api.Catch, nil)
				wantHold(t, &b, n, false, nil)
				if waits {
					wantTake(t, &b, n)
				}
				wantTake(t, &b, 0)
			}
		}
	}
}

// L1: what waits of other signals goes on waiting, however one is done with.
func TestHowOneAlone(t *testing.T) {
	for _, n := range ordinary() {
		var b signals.Box
		wantHow(t, &b, api.Kid, api.Catch, nil)
		for _, x := range all() {
			wantSend(t, &b, x, nil)
		}
		wantHow(t, &b, n, api.Ignore, nil)
		wantWaits(t, &b, from(1, n)...)
		wantHow(t, &b, n, api.Default, nil)
		wantWaits(t, &b, from(1, n)...)
		wantHold(t, &b, n, true, nil)
		wantWaits(t, &b, from(1, n)...)
		wantHow(t, &b, api.Kid, api.Default, nil)
		wantWaits(t, &b, from(1, n, api.Kid)...)
	}
}

// L1, L2: a signal that waits is done with as is said last, also if that is said while it waits.
func TestHowWhileItWaits(t *testing.T) {
	for _, n := range ordinary() {
		var b signals.Box
		wantSend(t, &b, n, nil)
		wantEnds(t, &b, n)
		wantTake(t, &b, 0)
		wantHow(t, &b, n, api.Catch, nil)
		wantEnds(t, &b, 0)
		wantHow(t, &b, n, api.Default, nil)
		wantEnds(t, &b, n)
		wantTake(t, &b, 0)
		wantHow(t, &b, n, api.Catch, nil)
		wantTake(t, &b, n)
		wantHow(t, &b, n, api.Default, nil)
		wantEnds(t, &b, 0)
	}
}

// L1, Z1: how must be one of the three.
func TestHowNone(t *testing.T) {
	for _, b := range []*signals.Box{{}, mixed(t)} {
		was := state(b)
		for _, n := range all() {
			for _, how := range strangeHows {
				wantHow(t, b, n, how, api.ErrBound)
			}
		}
		wantSame(t, b, was)
	}
}

// L1, Z1, Z3: Kill can't be held back, nor done with otherwise, not even as it is; that how is none is told first.
func TestKill(t *testing.T) {
	for _, sent := range []bool{false, true} {
		var b signals.Box
		if sent {
			wantSend(t, &b, api.Kill, nil)
		}
		was := state(&b)
		wantHold(t, &b, api.Kill, true, api.ErrState)
		wantHold(t, &b, api.Kill, false, api.ErrState)
		for _, how := range hows {
			wantHow(t, &b, api.Kill, how, api.ErrState)
		}
		for _, how := range strangeHows {
			wantHow(t, &b, api.Kill, how, api.ErrBound)
		}
		wantSame(t, &b, was)
		wantSend(t, &b, api.Kill, nil)
		wantWaits(t, &b, api.Kill)
		wantEnds(t, &b, api.Kill)
		wantTake(t, &b, 0)
	}
}

// L1, L2: what is held back waits, but neither ends anybody nor may be taken, till it is let go.
func TestHold(t *testing.T) {
	for _, n := range ordinary() {
		for _, first := range []bool{false, true} {
			var b signals.Box
			if first {
				wantSend(t, &b, n, nil)
			}
			wantHold(t, &b, n, true, nil)
			wantHold(t, &b, n, true, nil)
			wantSend(t, &b, n, nil)
			wantWaits(t, &b, n)
			wantEnds(t, &b, 0)
			wantHow(t, &b, n, api.Catch, nil)
			wantTake(t, &b, 0)
			wantWaits(t, &b, n)
			wantHow(t, &b, n, api.Default, nil)
			wantHold(t, &b, n, false, nil)
			wantEnds(t, &b, n)
			wantHow(t, &b, n, api.Catch, nil)
			wantTake(t, &b, n)
			wantWaits(t, &b)
		}
	}
}

// L1: a signal that was taken is held back as before, and done with as before.
func TestTakenStays(t *testing.T) {
	for _, n := range notKill() {
		var b signals.Box
		wantHow(t, &b, n, api.Catch, nil)
		was := state(&b)
		wantSend(t, &b, n, nil)
		wantTake(t, &b, n)
		wantSame(t, &b, was)
	}
}

// L2: Ends tells the least of those that wait, aren't held back, and are Default; and it goes on waiting.
func TestEndsLeast(t *testing.T) {
	for _, low := range ordinary() {
		for _, high := range from(low+1, api.Kid) {
			var b signals.Box
			wantSend(t, &b, high, nil)
			wantSend(t, &b, low, nil)
			wantEnds(t, &b, low)
			wantEnds(t, &b, low)
			wantWaits(t, &b, low, high)
			wantHold(t, &b, low, true, nil)
			wantEnds(t, &b, high)
			wantHold(t, &b, low, false, nil)
			wantEnds(t, &b, low)
			wantHow(t, &b, low, api.Catch, nil)
			wantEnds(t, &b, high)
			wantTake(t, &b, low)
			wantWaits(t, &b, high)
			wantHow(t, &b, high, api.Ignore, nil)
			wantEnds(t, &b, 0)
		}
	}
}

// L2: Take tells the least of those that wait, aren't held back, and are Catch; each once.
func TestTakeLeast(t *testing.T) {
	for _, low := range notKill() {
		for _, high := range from(low + 1) {
			var b signals.Box
			wantHow(t, &b, low, api.Catch, nil)
			wantHow(t, &b, high, api.Catch, nil)
			wantSend(t, &b, high, nil)
			wantSend(t, &b, low, nil)
			wantTake(t, &b, low)
			wantWaits(t, &b, high)
			wantSend(t, &b, low, nil)
			wantHold(t, &b, low, true, nil)
			wantTake(t, &b, high)
			wantTake(t, &b, 0)
			wantWaits(t, &b, low)
			wantHold(t, &b, low, false, nil)
			wantTake(t, &b, low)
			wantTake(t, &b, 0)
		}
	}
}

// L2: Take passes over those by which the process ends, and Ends over those that are caught.
func TestEndsAndTakeApart(t *testing.T) {
	b := mixed(t)
	wantEnds(t, b, 2)
	wantTake(t, b, 3)
	wantTake(t, b, 0)
	wantWaits(t, b, 2, 4, 6)
	wantHold(t, b, 4, false, nil)
	wantSend(t, b, api.Kill, nil)
	wantEnds(t, b, api.Kill)
	wantTake(t, b, 4)
	wantHold(t, b, 2, true, nil)
	wantHold(t, b, 6, false, nil)
	wantEnds(t, b, api.Kill)
	wantWaits(t, b, 1, 2, 6)
}

// L2, Z1: where there is none, nothing is told, and nothing is changed.
func TestTakeNone(t *testing.T) {
	b := mixed(t)
	wantTake(t, b, 3)
	was := state(b)
	for range 3 {
		wantTake(t, b, 0)
	}
	wantSame(t, b, was)
}

// L2: in a child's box none waits; what is held back, and how each is done with, is as in the other one.
func TestChild(t *testing.T) {
	for _, n := range notKill() {
		for _, how := range hows {
			for _, held := range []bool{false, true} {
				var b signals.Box
				wantHow(t, &b, n, how, nil)
				wantHold(t, &b, n, held, nil)
				for _, x := range all() {
					wantSend(t, &b, x, nil)
				}
				wantChild(t, b.Child(), n, how, held)
			}
		}
	}
}

// wantChild: a child's box in which that signal is held back, or not, and done with so, and each other one as at first.
func wantChild(t *testing.T, c *signals.Box, n, how int, held bool) {
	t.Helper()
	wantWaits(t, c)
	wantEnds(t, c, 0)
	wantTake(t, c, 0)
	for _, x := range from(1, n, api.Kid) {
		other := c.Child()
		wantSend(t, other, x, nil)
		wantEnds(t, other, x)
	}
	wantSend(t, c, n, nil)
	if how == api.Ignore || n == api.Kid && how == api.Default {
		wantWaits(t, c)
		return
	}
	wantWaits(t, c, n)
	ends, take := 0, n
	if how == api.Default {
		ends, take = n, 0
	}
	if held {
		wantEnds(t, c, 0)
		wantTake(t, c, 0)
		wantHold(t, c, n, false, nil)
	}
	wantEnds(t, c, ends)
	wantTake(t, c, take)
}

// L2: what waits in the other box goes on waiting there; a child's child is as its own box.
func TestChildLeaves(t *testing.T) {
	b := mixed(t)
	was := state(b)
	c := b.Child()
	wantSame(t, b, was)
	wantWaits(t, b, 2, 3, 4, 6)
	wantWaits(t, c)
	wantSame(t, c.Child(), state(c))
	wantSame(t, b.Child(), state(c))
}

// L2, Z2: neither box is changed by what is done with the other one.
func TestChildApart(t *testing.T) {
	for _, turned := range []bool{false, true} {
		one := mixed(t)
		other := one.Child()
		if turned {
			one, other = other, one
		}
		was := state(other)
		for _, n := range all() {
			_ = one.How(n, api.Catch)
			_ = one.Hold(n, n%2 == 0)
			wantSend(t, one, n, nil)
		}
		wantTake(t, one, 3)
		_ = one.How(2, api.Ignore)
		wantSame(t, other, was)
	}
}

// Z2: boxes have nothing in common.
func TestBoxesApart(t *testing.T) {
	b, other := mixed(t), &signals.Box{}
	wantWaits(t, other)
	wantSend(t, other, 6, nil)
	wantEnds(t, other, 6)
	wantWaits(t, b, 2, 3, 4, 6)
	wantEnds(t, b, 2)
}
