package vm_test

import (
	"testing"

	"wardroom/api"
	"wardroom/buddy"
	"wardroom/vm"
)

// plain: memories as each process sees them, with the bytes of every page
// copied at once; the frames are kept beside them as numbers alone.
type plain struct {
	pool *buddy.Pool
	all  []*plainMemory
}

type plainMemory map[int]*plainPage // the mapped pages

type plainPage struct {
	write bool
	frame int
	bytes [api.Page]byte
}

func newPlain() *plain {
	return &plain{pool: buddy.New(), all: []*plainMemory{{}}}
}

func (p *plain) refs(f int) (int, error) {
	if f < 0 || f >= api.Frames {
		return 0, api.ErrBound
	}
	refs := 0
	for _, m := range p.all {
		for _, page := range *m {
			if page.frame == f {
				refs++
			}
		}
	}
	return refs, nil
}

// give back a frame in which no page is any more.
func (p *plain) give(f int) {
	if refs, _ := p.refs(f); refs == 0 {
		p.pool.Give(f)
	}
}

func (p *plain) fork(m plainMemory) {
	child := plainMemory{}
	for n, page := range m {
		its := *page
		child[n] = &its
	}
	p.all = append(p.all, &child)
}

// span: how many of those pages are mapped.
func (m plainMemory) span(from, many int) (int, error) {
	if many < 1 || from < 0 || from >= api.Pages || from+many > api.Pages {
		return 0, api.ErrBound
	}
	count := 0
	for n := from; n < from+many; n++ {
		if m[n] != nil {
			count++
		}
	}
	return count, nil
}

func (m plainMemory) mapped(from, many int, write bool) error {
	count, err := m.span(from, many)
	if err != nil {
		return err
	}
	if count > 0 {
		return api.ErrExist
	}
	for n := from; n < from+many; n++ {
		m[n] = &plainPage{write: write, frame: -1}
	}
	return nil
}

func (m plainMemory) protect(from, many int, write bool) error {
	count, err := m.span(from, many)
	if err != nil {
		return err
	}
	if count < many {
		return api.ErrFault
	}
	for n := from; n < from+many; n++ {
		m[n].write = write
	}
	return nil
}

func (p *plain) unmap(m plainMemory, from, many int) (int, error) {
	if _, err := m.span(from, many); err != nil {
		return 0, err
	}
	gone := 0
	for n := from; n < from+many; n++ {
		if page := m[n]; page != nil {
			delete(m, n)
			if page.frame >= 0 {
				gone++
				p.give(page.frame)
			}
		}
	}
	return gone, nil
}

func (m plainMemory) may(addr int, write bool) bool {
	if addr < 0 || addr >= size || m[addr/api.Page] == nil {
		return false
	}
	return m[addr/api.Page].write || !write
}

func (m plainMemory) wants(addr int) bool {
	return m.may(addr, false) && m[addr/api.Page].frame < 0
}

// put a page into a frame of its own, if it needs one.
func (p *plain) put(page *plainPage, write bool) error {
	refs, _ := p.refs(page.frame)
	if page.frame >= 0 && (!write || refs == 1) {
		return nil
	}
	f, err := p.pool.Take(0)
	if err == nil {
		page.frame = f
	}
	return err
}

func (p *plain) load(m plainMemory, addr int) (byte, error) {
	if !m.may(addr, false) {
		return 0, api.ErrFault
	}
	page := m[addr/api.Page]
	if err := p.put(page, false); err != nil {
		return 0, err
	}
	return page.bytes[addr%api.Page], nil
}

func (p *plain) store(m plainMemory, addr int, v byte) error {
	if !m.may(addr, true) {
		return api.ErrFault
	}
	page := m[addr/api.Page]
	if err := p.put(page, true); err != nil {
		return err
	}
	page.bytes[addr%api.Page] = v
	return nil
}

func (m plainMemory) regions() []api.Region {
	var all []api.Region
	for n := range api.Pages {
		switch page, ahead := m[n], m[n-1]; {
		case page == nil:
		case ahead != nil && ahead.write == page.write:
			all[len(all)-1].Many++
		default:
			all = append(all, api.Region{From: n, Many: 1, Write: page.write})
		}
	}
	return all
}

func (m plainMemory) frame(n int) int {
	if m[n] == nil {
		return -1
	}
	return m[n].frame
}

func (m plainMemory) resident() int {
	many := 0
	for n := range m {
		if m.frame(n) >= 0 {
			many++
		}
	}
	return many
}

// dice: numbers that look drawn, the same each time.
type dice uint64

func (d *dice) n(most int) int {
	*d = *d*6364136223846793005 + 1442695040888963407
	return int(uint64(*d>>33) % uint64(most))
}

// F1 to F4, Z1, Z3: over long rows of acts memories of a bank answer as the plain ones do.
func TestAgainstPlain(t *testing.T) {
	d := dice(6)
	full := false
	for range 25 {
		b, p := vm.NewBank(), newPlain()
		all := []*vm.Memory{vm.New(b)}
		// How many memories there may be says how full the bank comes to be.
		most := 1 + d.n(14)
		for range 500 {
			i := d.n(len(all))
			if d.n(10) == 0 && len(all) < most {
				all = append(all, all[i].Fork())
				p.fork(*p.all[i])
			} else {
				act(t, all[i], p, *p.all[i], &d)
			}
			same(t, b, p, all)
			full = full || b.Left() == 0
			if t.Failed() {
				return
			}
		}
	}
	if !full {
		t.Error("no bank came to be full")
	}
}

func act(t *testing.T, m *vm.Memory, p *plain, its plainMemory, d *dice) {
	t.Helper()
	from, many, write := d.n(api.Pages+2)-1, d.n(6), d.n(3) > 0
	addr, v := d.n(size+8)-4, byte(d.n(256))
	switch k := d.n(20); {
	case k < 3:
		wantErr(t, "Map", m.Map(from, many, write), its.mapped(from, many, write))
	case k < 4:
		gone, err := m.Unmap(from, many)
		want, fault := p.unmap(its, from, many)
		wantNum(t, "Unmap", gone, err, want, fault)
	case k < 6:
		wantErr(t, "Protect", m.Protect(from, many, write), its.protect(from, many, write))
	case k < 10:
		got, err := m.Load(addr)
		want, fault := p.load(its, addr)
		wantNum(t, "Load", int(got), err, int(want), fault)
	default:
		wantErr(t, "Store", m.Store(addr, v), p.store(its, addr, v))
	}
}

// same: do all tell the same of themselves?
func same(t *testing.T, b *vm.Bank, p *plain, all []*vm.Memory) {
	t.Helper()
	wantLeft(t, b, p.pool.Left())
	for f := -1; f <= api.Frames; f++ {
		refs, err := p.refs(f)
		wantRefs(t, b, f, refs, err)
	}
	for i, m := range all {
		its := *p.all[i]
		wantRegions(t, m, its.regions()...)
		wantResident(t, m, its.resident())
		for n := -1; n <= api.Pages; n++ {
			wantFrame(t, m, n, its.frame(n))
		}
		for addr := -1; addr <= size; addr += 3 {
			wantMay(t, m, addr, its.may(addr, false), its.may(addr, true), its.wants(addr))
		}
	}
}
