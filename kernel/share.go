package kernel

import "wardroom/api"

// AddGroup below another one.
func (k *Kernel) AddGroup(parent, weight int) (int, error) {
	if weight < 1 || weight > api.MaxWeight {
		return 0, api.ErrBound
	}
	n, err := k.groups.Add(parent)
	if err != nil {
		return 0, err
	}
	// Both trees have the same groups: so this isn't refused.
	k.sched.AddGroup(n, parent, weight)
	return n, nil
}

// DropGroup that has nothing.
func (k *Kernel) DropGroup(n int) error {
	if err := k.groups.Remove(n); err != nil {
		return err
	}
	// Each task is charged as a process: what has none has no units, either.
	return k.sched.DropGroup(n)
}

// Limit a group.
func (k *Kernel) Limit(n, procs, pages int) error { return k.groups.Limit(n, procs, pages) }

// Group of a number.
func (k *Kernel) Group(n int) (api.Group, error) { return k.groups.Of(n) }

// Of: the group of a process.
func (k *Kernel) Of(n int) (int, error) {
	p, err := k.acting(n)
	if err != nil {
		return 0, err
	}
	return p.group, nil
}

// Join: a process goes to another group, with all that is its own.
func (k *Kernel) Join(n, group int) error {
	p, err := k.acting(n)
	if err != nil {
		return err
	}
	if err := k.groups.Move(p.group, group, 1, p.memory.Resident()); err != nil {
		return err
	}
	p.group = group
	return k.sched.MoveTask(n, group)
}

// Sleep of a process, or its waking up.
func (k *Kernel) Sleep(n int, on bool) error {
	if _, err := k.acting(n); err != nil {
		return err
	}
	return k.sched.Wake(n, !on)
}

// Freeze a group, or thaw it.
func (k *Kernel) Freeze(n int, on bool) error { return k.sched.Freeze(n, on) }

// Quota of a group.
func (k *Kernel) Quota(n, quota, period int) error { return k.sched.Quota(n, quota, period) }

// Tick: the process that runs in it; below 0: none.
func (k *Kernel) Tick() int { return k.sched.Tick() }

// Ran: in how many ticks a process ran.
func (k *Kernel) Ran(n int) (int, error) {
	if _, err := k.acting(n); err != nil {
		return 0, err
	}
	return k.sched.Ran(n)
}
