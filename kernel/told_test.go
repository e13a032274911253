package kernel_test

import (
	"fmt"
	"testing"

	"wardroom/api"
)

// M5: who is sent a signal ends by it, with 128 and its number as its code; Kid is ignored.
func TestSignalEnds(t *testing.T) {
	for sig := 1; sig <= api.Signals; sig++ {
		k := play(t, fmt.Sprintf("fork 0 0 => 2\nfork 0 0 => 3\nsignal 1 3 %d => ok", sig))
		if sig == api.Kid {
			goOn(t, k, "procs => 0 1 2\ntake 2 => error 2")
			continue
		}
		goOn(t, k, fmt.Sprintf("procs => 0 1\nwait 0 => 3 %d\nwait 0 => error 8", 128+sig))
	}
}

// M5: also who signals itself, its parent, or who is below it.
func TestSignalWhom(t *testing.T) {
	play(t, `
		fork 0 0 => 2
		fork 1 0 => 3
		fork 1 1 => 4
		fork 3 0 => 2
		signal 0 5 4 => ok
		procs => 0 1 2 3
		wait 3 => 2 132
		signal 2 2 6 => ok
		procs => 0 2 3
		signal 2 3 6 => ok
		procs => 0 3
		wait 0 => 2 134
		wait 0 => 3 134
		parent 3 => 0
	`)
}

// M5: the errors of Signal, in their order.
func TestSignalRefused(t *testing.T) {
	k := play(t, `
		fork 0 0 => 2
		fork 0 1 => 3
		fork 0 0 => 4
		exit 3 0 => ok
	`)
	for _, sig := range append(strange, 0, api.Signals+1) {
		for _, pid := range append(strange, 0, 5) {
			wantRefused(t, k, fmt.Sprintf("signal 0 %d %d", pid, sig), api.ErrNone)
		}
		wantRefused(t, k, fmt.Sprintf("signal 0 4 %d", sig), api.ErrState)
		for _, pid := range []int{1, 2, 3} {
			wantRefused(t, k, fmt.Sprintf("signal 0 %d %d", pid, sig), api.ErrBound)
		}
	}
	for sig := 1; sig <= api.Signals; sig++ {
		wantRefused(t, k, fmt.Sprintf("signal 0 1 %d", sig), api.ErrState)
		wantRefused(t, k, fmt.Sprintf("signal 1 1 %d", sig), api.ErrState)
		wantRefused(t, k, fmt.Sprintf("signal 2 1 %d", sig), api.ErrState)
		wantRefused(t, k, fmt.Sprintf("signal 2 3 %d", sig), api.ErrNone)
		wantRefused(t, k, fmt.Sprintf("signal 0 4 %d", sig), api.ErrState)
	}
}

// M5: the errors of Hold and How are the box's.
func TestHoldAndHowRefused(t *testing.T) {
	k := play(t, "fork 0 0 => 2")
	for _, sig := range append(strange, 0, api.Signals+1) {
		wantRefused(t, k, fmt.Sprintf("hold 1 %d 1", sig), api.ErrBound)
		wantRefused(t, k, fmt.Sprintf("how 1 %d 2", sig), api.ErrBound)
	}
	for _, how := range append(strange, 3) {
		wantRefused(t, k, fmt.Sprintf("how 1 5 %d", how), api.ErrBound)
	}
	wantRefused(t, k, "hold 1 1 1", api.ErrState)
	wantRefused(t, k, "hold 1 1 0", api.ErrState)
	wantRefused(t, k, "how 1 1 1", api.ErrState)
	wantRefused(t, k, "how 0 1 2", api.ErrState)
	goOn(t, k, "signal 0 2 1 => ok\nwait 0 => 2 129")
}

// M5: what is held back waits till it is held back no more.
func TestHold(t *testing.T) {
	play(t, `
		fork 0 0 => 2
		hold 1 6 1 => ok
		hold 1 4 1 => ok
		signal 0 2 6 => ok
		signal 0 2 4 => ok
		self 1 => 2
		hold 1 5 0 => ok
		how 1 7 2 => ok
		self 1 => 2
		hold 1 6 0 => ok
		self 1 => error 2
		wait 0 => 2 134
	`)
}

// M5: what is ignored never waits; what is caught waits till it is taken, the least first.
func TestIgnoreAndCatch(t *testing.T) {
	play(t, `
		fork 0 0 => 2
		how 1 4 1 => ok
		how 1 5 2 => ok
		how 1 6 2 => ok
		how 1 2 2 => ok
		signal 0 2 6 => ok
		signal 0 2 4 => ok
		signal 0 2 5 => ok
		signal 0 2 2 => ok
		signal 0 2 5 => ok
		hold 1 2 1 => ok
		take 1 => 5
		take 1 => 6
		take 1 => error 2
		hold 1 2 0 => ok
		take 1 => 2
		take 1 => error 2
		how 1 4 0 => ok
		self 1 => 2
		signal 0 2 4 => ok
		wait 0 => 2 132
	`)
}

// M5: who comes to do by default with what waits ends.
func TestHowLooks(t *testing.T) {
	play(t, `
		fork 0 0 => 2
		how 1 5 2 => ok
		signal 0 2 5 => ok
		how 1 6 1 => ok
		hold 1 7 1 => ok
		self 1 => 2
		how 1 5 0 => ok
		wait 0 => 2 133
		fork 0 0 => 2
		how 1 5 2 => ok
		signal 0 2 5 => ok
		how 1 5 1 => ok
		how 1 5 0 => ok
		self 1 => 2
	`)
}

// M5: a head ends by signals from other spaces than its own.
func TestSignalToHead(t *testing.T) {
	play(t, `
		fork 0 1 => 2
		fork 1 0 => 2
		fork 0 0 => 4
		signal 2 1 4 => error 8
		how 1 5 2 => ok
		hold 1 6 1 => ok
		how 1 7 1 => ok
		signal 3 2 5 => ok
		signal 3 2 6 => ok
		signal 3 2 7 => ok
		signal 3 2 3 => ok
		procs => 0 1 2 3
		take 1 => 5
		signal 3 2 4 => ok
		procs => 0 3
		wait 0 => 2 132
		list 0 => 1 4
	`)
}

// M5: a head ends neither by what it is sent else, nor by what it does with signals; it looks when one comes from above.
func TestHeadLooksSeldom(t *testing.T) {
	play(t, `
		fork 0 1 => 2
		pipe 1 => 0 1
		close 1 0 => ok
		write 1 1 61 => error 12
		self 1 => 1
		hold 1 2 1 => ok
		hold 1 2 0 => ok
		self 1 => 1
		how 1 5 2 => ok
		how 1 2 0 => ok
		self 1 => 1
		fork 1 0 => 2
		exit 2 1 => ok
		self 1 => 1
		signal 0 2 5 => ok
		wait 0 => 2 130
	`)
}

// M5: a head may take what waits for it, once it catches that.
func TestHeadCatches(t *testing.T) {
	play(t, `
		pipe 0 => 0 1
		close 0 0 => ok
		write 0 1 61 => error 12
		take 0 => error 2
		how 0 2 2 => ok
		take 0 => 2
		take 0 => error 2
		how 0 5 2 => ok
		how 0 5 0 => ok
		self 0 => 1
	`)
}

// M5: a head that held a signal from above back doesn't end when it does so no more, but when the next one comes.
func TestHeadHeldBack(t *testing.T) {
	play(t, `
		fork 0 1 => 2
		hold 1 6 1 => ok
		signal 0 2 6 => ok
		hold 1 6 0 => ok
		self 1 => 1
		signal 0 2 3 => ok
		wait 0 => 2 134
	`)
}

// M5: of several signals the least one is told.
func TestLeastSignalEnds(t *testing.T) {
	play(t, `
		fork 0 1 => 2
		hold 1 6 1 => ok
		hold 1 4 1 => ok
		signal 0 2 6 => ok
		signal 0 2 4 => ok
		hold 1 6 0 => ok
		hold 1 4 0 => ok
		signal 0 2 8 => ok
		wait 0 => 2 132
	`)
}
