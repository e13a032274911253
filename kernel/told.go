package kernel

import "wardroom/api"

const bySignal = 128 // what is added to a signal's number in the code of whoever ends by it

// Signal a process that another one sees.
func (k *Kernel) Signal(n, pid, sig int) error {
	to, err := k.See(n, pid)
	if err != nil {
		return err
	}
	if sig < 1 || sig > api.Signals {
		return api.ErrBound
	}
	if pid == headPid {
		return api.ErrState
	}
	k.procs[to].box.Send(sig)
	k.look(to) // it is no head, or that of another space than n's
	return nil
}

// Hold a signal back, or not any more.
func (k *Kernel) Hold(n, sig int, on bool) error {
	p, err := k.acting(n)
	if err != nil {
		return err
	}
	if err := p.box.Hold(sig, on); err != nil {
		return err
	}
	k.lookBelow(n)
	return nil
}

// How a process is done with a signal.
func (k *Kernel) How(n, sig, how int) error {
	p, err := k.acting(n)
	if err != nil {
		return err
	}
	if err := p.box.How(sig, how); err != nil {
		return err
	}
	k.lookBelow(n)
	return nil
}

// Take the first signal that is caught.
func (k *Kernel) Take(n int) (int, error) {
	p, err := k.acting(n)
	if err != nil {
		return 0, err
	}
	sig, is := p.box.Take()
	if !is {
		return 0, api.ErrNone
	}
	return sig, nil
}

// send a signal to a process, not by Signal.
func (k *Kernel) send(n, sig int) {
	k.procs[n].box.Send(sig)
	k.lookBelow(n)
}

// lookBelow: a process looks, unless it is a head: that ends by no signal but one from above.
func (k *Kernel) lookBelow(n int) {
	if !k.isHead(n) {
		k.look(n)
	}
}

// look: a process ends, if a signal says so.
func (k *Kernel) look(n int) {
	if sig, is := k.procs[n].box.Ends(); is {
		k.end(n, bySignal+sig)
	}
}
