package kernel

import (
	"wardroom/api"
	"wardroom/vm"
)

const lackCode = 137 // of who ends since a group lacks room

// Map pages of a process.
func (k *Kernel) Map(n, from, many int, write bool) error {
	p, err := k.acting(n)
	if err != nil {
		return err
	}
	return p.memory.Map(from, many, write)
}

// Unmap pages of a process.
func (k *Kernel) Unmap(n, from, many int) error {
	p, err := k.acting(n)
	if err != nil {
		return err
	}
	return k.unmap(p, from, many)
}

// Protect pages of a process.
func (k *Kernel) Protect(n, from, many int, write bool) error {
	p, err := k.acting(n)
	if err != nil {
		return err
	}
	return p.memory.Protect(from, many, write)
}

// Regions of a process's memory.
func (k *Kernel) Regions(n int) ([]api.Region, error) {
	p, err := k.acting(n)
	if err != nil {
		return nil, err
	}
	return p.memory.Regions(), nil
}

// Resident: how many pages of a process are in frames.
func (k *Kernel) Resident(n int) (int, error) {
	p, err := k.acting(n)
	if err != nil {
		return 0, err
	}
	return p.memory.Resident(), nil
}

// Left: how many frames are free.
func (k *Kernel) Left() int { return k.bank.Left() }

// Load a byte.
func (k *Kernel) Load(n, addr int) (byte, error) {
	var v byte
	err := k.touch(n, addr, false, func(m *vm.Memory) (err error) {
		v, err = m.Load(addr)
		return err
	})
	return v, err
}

// Store a byte.
func (k *Kernel) Store(n, addr int, v byte) error {
	return k.touch(n, addr, true, func(m *vm.Memory) error { return m.Store(addr, v) })
}

// unmap a span: what was in frames is charged no more.
func (k *Kernel) unmap(p *proc, from, many int) error {
	pages, err := p.memory.Unmap(from, many)
	if err != nil {
		return err
	}
	return k.groups.Uncharge(p.group, 0, pages)
}

// touch a page: what is to be done with it is done, once it is charged, if it is in no frame yet.
func (k *Kernel) touch(n, addr int, write bool, do func(m *vm.Memory) error) error {
	p, err := k.acting(n)
	if err != nil {
		return err
	}
	if !p.memory.May(addr, write) {
		return api.ErrFault
	}
	if !p.memory.Wants(addr) {
		return do(p.memory)
	}
	if err := k.chargePage(n); err != nil {
		return err
	}
	if err := do(p.memory); err != nil {
		k.groups.Uncharge(p.group, 0, 1)
		return err
	}
	return nil
}

// chargePage to a process's group. As long as there is no room for it, somebody ends, who may be the process itself.
func (k *Kernel) chargePage(n int) error {
	group := k.procs[n].group
	for {
		full, lacks := k.groups.Lacks(group, 0, 1)
		if !lacks {
			return k.groups.Charge(group, 0, 1)
		}
		most := k.greatest(full)
		if most == nobody {
			return api.ErrLimit
		}
		k.end(most, lackCode)
		if !k.isLive(n) {
			return api.ErrLimit
		}
	}
}

// greatest: of those in a group and below it, but the first process, the one with most pages in frames; nobody, if none has any.
func (k *Kernel) greatest(group int) int {
	most, pages := nobody, 0
	for n, p := range k.procs {
		if n == first || !k.isLive(n) || !k.groups.Under(p.group, group) {
			continue
		}
		if has := p.memory.Resident(); has > pages {
			most, pages = n, has
		}
	}
	return most
}
