package kernel

import "wardroom/api"

const maxCode = 255

// Fork a process: its child, in a space of its own or not; the child's number in the process's space.
func (k *Kernel) Fork(n int, own bool) (int, error) {
	p, err := k.acting(n)
	if err != nil {
		return 0, err
	}
	child, err := k.free()
	if err != nil {
		return 0, err
	}
	pages := p.memory.Resident()
	if err := k.groups.Charge(p.group, 1, pages); err != nil {
		return 0, err
	}
	space, err := k.home(n, own)
	if err != nil {
		k.groups.Uncharge(p.group, 1, pages)
		return 0, err
	}
	k.start(child, k.childOf(n), space)
	return k.pid(child, k.space(n)), nil
}

// Exit of a process with a code.
func (k *Kernel) Exit(n, code int) error {
	if _, err := k.acting(n); err != nil {
		return err
	}
	if code < 0 || code > maxCode {
		return api.ErrBound
	}
	if n == first {
		return api.ErrState
	}
	k.end(n, code)
	return nil
}

// Wait for a child that is gone: the one with the least number.
func (k *Kernel) Wait(n int) (api.Child, error) {
	if _, err := k.acting(n); err != nil {
		return api.Child{}, err
	}
	children := k.children(n)
	if len(children) == 0 {
		return api.Child{}, api.ErrNone
	}
	for _, c := range children {
		if !k.isLive(c) {
			told := api.Child{Pid: k.pid(c, k.space(n)), Code: k.procs[c].code}
			k.vanish(c)
			return told, nil
		}
	}
	return api.Child{}, api.ErrState
}

// See the process that another one sees by a number.
func (k *Kernel) See(n, pid int) (int, error) {
	if _, err := k.acting(n); err != nil {
		return 0, err
	}
	m, err := k.spaces.Find(k.space(n), pid)
	if err != nil {
		return 0, err
	}
	if !k.isLive(m) {
		return 0, api.ErrState
	}
	return m, nil
}

// Self: the number of a process in its own space.
func (k *Kernel) Self(n int) (int, error) {
	if _, err := k.acting(n); err != nil {
		return 0, err
	}
	return k.pid(n, k.space(n)), nil
}

// Parent: the number of its parent in its own space; 0: it has none there.
func (k *Kernel) Parent(n int) (int, error) {
	p, err := k.acting(n)
	if err != nil {
		return 0, err
	}
	return k.pid(p.parent, k.space(n)), nil
}

// List: the numbers that a process sees.
func (k *Kernel) List(n int) ([]int, error) {
	if _, err := k.acting(n); err != nil {
		return nil, err
	}
	space := k.space(n)
	var all []int
	for _, m := range k.members(space) {
		all = append(all, k.pid(m, space))
	}
	return all, nil
}

// free: the lowest number that is no process.
func (k *Kernel) free() (int, error) {
	for n := range k.procs {
		if k.procs[n].state == noProcess {
			return n, nil
		}
	}
	return 0, api.ErrFull
}

// home of a child: its parent's space, or a new one below that.
func (k *Kernel) home(n int, own bool) (int, error) {
	space := k.space(n)
	if !own {
		return space, nil
	}
	below, err := k.spaces.Add(space)
	if err != nil {
		return 0, err
	}
	k.tables[below] = k.tables[space].Copy()
	return below, nil
}

// childOf: what a child has of its parent.
func (k *Kernel) childOf(n int) proc {
	c := k.procs[n]
	c.parent = n
	c.memory, c.box = c.memory.Fork(), c.box.Child()
	for _, file := range c.open {
		if file != noFile {
			k.files.Share(file)
		}
	}
	return c
}

// end a process that is live: it is gone, till its parent waits for it.
func (k *Kernel) end(n, code int) {
	k.strip(n)
	p := &k.procs[n]
	p.state, p.code = api.Gone, code
	if k.isHead(n) {
		k.empty(n)
	}
	head := k.head(k.space(n))
	for _, c := range k.children(n) {
		k.procs[c].parent = head
	}
	if k.isLive(p.parent) {
		k.send(p.parent, api.Kid)
	}
}

// strip a process that is live of all that it has just while it is.
func (k *Kernel) strip(n int) {
	p := &k.procs[n]
	k.unmap(p, 0, api.Pages)
	for fd, file := range p.open {
		if file != noFile {
			k.files.Close(file)
			p.open[fd] = noFile
		}
	}
	k.sched.DropTask(n)
	p.memory, p.box = nil, nil
}

// empty the space of a head that ends of all others. With each of them others may be no more: so they are asked for anew.
func (k *Kernel) empty(head int) {
	space := k.space(head)
	for all := k.members(space); len(all) > 1; all = k.members(space) {
		k.vanish(all[1]) // the head's number is the least one
	}
}

// vanish: a process is no more; with the head of a space nor is that, or who is in it.
func (k *Kernel) vanish(n int) {
	space, head := k.space(n), k.isHead(n)
	if k.isLive(n) {
		k.strip(n)
	}
	if head {
		k.empty(n)
	}
	k.groups.Uncharge(k.procs[n].group, 1, 0)
	k.spaces.Leave(n)
	k.procs[n] = proc{}
	if head {
		k.spaces.Drop(space)
		k.tables[space].Close()
		k.tables[space] = nil
	}
}
