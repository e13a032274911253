package vm_test

import (
	"fmt"
	"math"
	"slices"
	"testing"

	"wardroom/api"
	"wardroom/buddy"
	"wardroom/vm"
)

const (
	size    = api.Pages * api.Page // bytes of a memory
	read    = false
	written = true
)

// Numbers that are no page, no address and no frame; and spans that aren't within the pages.
var (
	far          = []int{-1, -2, math.MinInt, math.MaxInt, math.MinInt32, math.MaxInt32, 1 << 32}
	strangePage  = append([]int{api.Pages, api.Pages + 1}, far...)
	strangeAddr  = append([]int{size, size + 1, size + api.Page, -api.Page}, far...)
	strangeFrame = append([]int{api.Frames, api.Frames + 1}, far...)
	strangeSpan  = strangeSpans()
)

func region(from, many int, write bool) api.Region {
	return api.Region{From: from, Many: many, Write: write}
}

func strangeSpans() [][2]int {
	all := [][2]int{
		{0, 0}, {3, 0}, {0, api.Pages + 1}, {1, api.Pages}, {api.Pages - 1, 2}, {-1, 2}, {-api.Pages, 2 * api.Pages},
		{math.MaxInt, math.MaxInt}, {math.MinInt, math.MinInt}, {math.MinInt, math.MaxInt},
	}
	for _, n := range strangePage {
		all = append(all, [2]int{n, 1})
	}
	for _, many := range far {
		all = append(all, [2]int{0, many}, [2]int{1, many}, [2]int{api.Pages - 1, many})
	}
	return all
}

func wantErr(t *testing.T, what string, err, want error) {
	t.Helper()
	if err != want {
		t.Errorf("%s: %v, want %v", what, err, want)
	}
}

// wantNum: a number and no error, or an error and 0.
func wantNum(t *testing.T, what string, got int, err error, want int, fault error) {
	t.Helper()
	if got != want || err != fault {
		t.Errorf("%s: %d %v, want %d %v", what, got, err, want, fault)
	}
}

func mapped(t *testing.T, m *vm.Memory, from, many int, write bool) {
	t.Helper()
	if err := m.Map(from, many, write); err != nil {
		t.Fatalf("Map(%d, %d, %v): %v", from, many, write, err)
	}
}

func protect(t *testing.T, m *vm.Memory, from, many int, write bool) {
	t.Helper()
	if err := m.Protect(from, many, write); err != nil {
		t.Fatalf("Protect(%d, %d, %v): %v", from, many, write, err)
	}
}

func store(t *testing.T, m *vm.Memory, addr int, v byte) {
	t.Helper()
	if err := m.Store(addr, v); err != nil {
		t.Fatalf("Store(%d, %d): %v", addr, v, err)
	}
}

func wantUnmap(t *testing.T, m *vm.Memory, from, many, want int, fault error) {
	t.Helper()
	got, err := m.Unmap(from, many)
	wantNum(t, fmt.Sprintf("Unmap(%d, %d)", from, many), got, err, want, fault)
}

func wantLoad(t *testing.T, m *vm.Memory, addr int, want byte, fault error) {
	t.Helper()
	got, err := m.Load(addr)
	wantNum(t, fmt.Sprintf("Load(%d)", addr), int(got), err, int(want), fault)
}

func wantNoStore(t *testing.T, m *vm.Memory, addr int, want error) {
	t.Helper()
	wantErr(t, fmt.Sprintf("Store(%d)", addr), m.Store(addr, 255), want)
}

func wantRegions(t *testing.T, m *vm.Memory, want ...api.Region) {
	t.Helper()
	if got := m.Regions(); !slices.Equal(got, want) {
		t.Errorf("Regions(): %v, want %v", got, want)
	}
}

func wantResident(t *testing.T, m *vm.Memory, want int) {
	t.Helper()
	if got := m.Resident(); got != want {
		t.Errorf("Resident(): %d, want %d", got, want)
	}
}

func wantFrame(t *testing.T, m *vm.Memory, n, want int) {
	t.Helper()
	if got := m.Frame(n); got != want {
		t.Errorf("Frame(%d): %d, want %d", n, got, want)
	}
}

func wantMay(t *testing.T, m *vm.Memory, addr int, mayRead, mayWrite, wants bool) {
	t.Helper()
	if got := m.May(addr, false); got != mayRead {
		t.Errorf("May(%d, false): %v", addr, got)
	}
	if got := m.May(addr, true); got != mayWrite {
		t.Errorf("May(%d, true): %v", addr, got)
	}
	if got := m.Wants(addr); got != wants {
		t.Errorf("Wants(%d): %v", addr, got)
	}
}

func wantLeft(t *testing.T, b *vm.Bank, want int) {
	t.Helper()
	if got := b.Left(); got != want {
		t.Errorf("Left(): %d, want %d", got, want)
	}
}

func wantRefs(t *testing.T, b *vm.Bank, f, want int, fault error) {
	t.Helper()
	got, err := b.Refs(f)
	wantNum(t, fmt.Sprintf("Refs(%d)", f), got, err, want, fault)
}

// state: all that a bank and its memories tell of themselves. Bytes are told of pages in frames alone: to load others would put them into frames.
func state(b *vm.Bank, all ...*vm.Memory) string {
	told := fmt.Sprint(b.Left())
	for f := range api.Frames {
		refs, err := b.Refs(f)
		told += fmt.Sprint(" ", refs, err)
	}
	for _, m := range all {
		told += fmt.Sprint(";", m.Regions(), m.Resident())
		for n := range api.Pages {
			told += fmt.Sprint(" ", m.Frame(n))
		}
		for addr := range size {
			told += fmt.Sprint(" ", m.May(addr, false), m.May(addr, true), m.Wants(addr))
			if m.Frame(addr/api.Page) >= 0 {
				told += fmt.Sprint(m.Load(addr))
			}
		}
	}
	return told
}

// fill: memories that have all frames but some; each has its pages alone.
func fill(t *testing.T, b *vm.Bank, but int) []*vm.Memory {
	t.Helper()
	var all []*vm.Memory
	for b.Left() > but {
		m := vm.New(b)
		mapped(t, m, 0, api.Pages, written)
		for n := 0; n < api.Pages && b.Left() > but; n++ {
			store(t, m, n*api.Page, 1)
		}
		all = append(all, m)
	}
	return all
}

// F1: at the beginning no frame is taken.
func TestNewBank(t *testing.T) {
	b := vm.NewBank()
	wantLeft(t, b, api.Frames)
	for f := range api.Frames {
		wantRefs(t, b, f, 0, nil)
	}
}

// F1, Z1: no such frame.
func TestNoFrame(t *testing.T) {
	b := vm.NewBank()
	for _, f := range strangeFrame {
		wantRefs(t, b, f, 0, api.ErrBound)
	}
}

// F1: frames are taken of a pool, and given back to it, as blocks of the order 0.
func TestFramesOfPool(t *testing.T) {
	b, p := vm.NewBank(), buddy.New()
	m := vm.New(b)
	mapped(t, m, 0, api.Pages, written)
	for n := range api.Pages {
		f, _ := p.Take(0)
		wantLoad(t, m, n*api.Page, 0, nil)
		wantFrame(t, m, n, f)
		wantRefs(t, b, f, 1, nil)
		wantLeft(t, b, p.Left())
	}
	for _, n := range []int{9, 2, 14, 15, 3, 8} {
		p.Give(n)
		wantUnmap(t, m, n, 1, 1, nil)
		wantRefs(t, b, n, 0, nil)
		wantLeft(t, b, p.Left())
	}
	for _, n := range []int{15, 2, 8, 3} {
		f, _ := p.Take(0)
		mapped(t, m, n, 1, written)
		store(t, m, n*api.Page, 1)
		wantFrame(t, m, n, f)
	}
}

// F2: in a new memory no page is mapped.
func TestNew(t *testing.T) {
	b := vm.NewBank()
	m := vm.New(b)
	wantRegions(t, m)
	wantResident(t, m, 0)
	for n := range api.Pages {
		wantFrame(t, m, n, -1)
	}
	for addr := range size {
		wantMay(t, m, addr, false, false, false)
		wantLoad(t, m, addr, 0, api.ErrFault)
		wantNoStore(t, m, addr, api.ErrFault)
	}
	wantLeft(t, b, api.Frames)
}

// F2: mapped pages are told as spans, and are in no frame yet.
func TestMap(t *testing.T) {
	b := vm.NewBank()
	m := vm.New(b)
	mapped(t, m, 4, 3, written)
	wantRegions(t, m, region(4, 3, true))
	mapped(t, m, 0, 1, read)
	mapped(t, m, api.Pages-1, 1, read)
	wantRegions(t, m, region(0, 1, false), region(4, 3, true), region(api.Pages-1, 1, false))
	wantResident(t, m, 0)
	wantLeft(t, b, api.Frames)
	whole := vm.New(b)
	mapped(t, whole, 0, api.Pages, written)
	wantRegions(t, whole, region(0, api.Pages, true))
}

// F2: regions that touch are one, if they are mapped alike, and two if not.
func TestRegionsJoin(t *testing.T) {
	m := vm.New(vm.NewBank())
	mapped(t, m, 2, 2, written)
	mapped(t, m, 6, 2, written)
	wantRegions(t, m, region(2, 2, true), region(6, 2, true))
	mapped(t, m, 4, 2, read)
	wantRegions(t, m, region(2, 2, true), region(4, 2, false), region(6, 2, true))
	protect(t, m, 4, 2, written)
	wantRegions(t, m, region(2, 6, true))
	mapped(t, m, 0, 2, read)
	mapped(t, m, 8, 1, read)
	wantRegions(t, m, region(0, 2, false), region(2, 6, true), region(8, 1, false))
	wantUnmap(t, m, 3, 2, 0, nil)
	wantRegions(t, m, region(0, 2, false), region(2, 1, true), region(5, 3, true), region(8, 1, false))
}

// F2: pages of one region need not be alike in their frames.
func TestRegionsWithFrames(t *testing.T) {
	m := vm.New(vm.NewBank())
	mapped(t, m, 1, 4, written)
	store(t, m, 2*api.Page, 1)
	wantRegions(t, m, region(1, 4, true))
}

// F2, Z1, Z3: ErrExist, also if one page alone is mapped; nothing is mapped then.
func TestMapExist(t *testing.T) {
	b := vm.NewBank()
	m := vm.New(b)
	mapped(t, m, 4, 2, read)
	before := state(b, m)
	for from := range api.Pages {
		for many := 1; from+many <= api.Pages; many++ {
			if from < 6 && from+many > 4 {
				wantErr(t, fmt.Sprintf("Map(%d, %d)", from, many), m.Map(from, many, true), api.ErrExist)
			}
		}
	}
	if state(b, m) != before {
		t.Error("a refused Map changed the memory")
	}
	mapped(t, m, 3, 1, read)
	mapped(t, m, 6, 1, read)
	wantRegions(t, m, region(3, 4, false))
}

// F2, Z1, Z3: ErrBound at spans that aren't within the pages, ahead of what else is wrong.
func TestNoSpan(t *testing.T) {
	b := vm.NewBank()
	m := vm.New(b)
	mapped(t, m, 0, 3, written)
	mapped(t, m, 14, 2, written)
	store(t, m, 0, 7)
	store(t, m, 15*api.Page, 7)
	before := state(b, m)
	for _, s := range strangeSpan {
		what := fmt.Sprint(s)
		for _, write := range []bool{false, true} {
			wantErr(t, "Map "+what, m.Map(s[0], s[1], write), api.ErrBound)
			wantErr(t, "Protect "+what, m.Protect(s[0], s[1], write), api.ErrBound)
		}
		wantUnmap(t, m, s[0], s[1], 0, api.ErrBound)
	}
	if state(b, m) != before {
		t.Error("a refused call changed the memory")
	}
}

// F2: Unmap: pages are in no frames any more; how many were; pages that aren't mapped are no fault.
func TestUnmap(t *testing.T) {
	b := vm.NewBank()
	m := vm.New(b)
	mapped(t, m, 2, 6, written)
	mapped(t, m, 8, 1, read)
	for _, n := range []int{2, 4, 5, 7} {
		store(t, m, n*api.Page, byte(n))
	}
	wantLoad(t, m, 8*api.Page, 0, nil)
	wantResident(t, m, 5)
	wantUnmap(t, m, 3, 3, 2, nil)
	wantRegions(t, m, region(2, 1, true), region(6, 2, true), region(8, 1, false))
	wantResident(t, m, 3)
	wantLeft(t, b, api.Frames-3)
	wantFrame(t, m, 4, -1)
	wantMay(t, m, 4*api.Page, false, false, false)
	wantUnmap(t, m, 3, 3, 0, nil)
	wantUnmap(t, m, 0, api.Pages, 3, nil)
	wantRegions(t, m)
	wantLeft(t, b, api.Frames)
	wantUnmap(t, m, 0, api.Pages, 0, nil)
}

// F3: a page that is mapped anew has noughts, whatever its frame had.
func TestMapAnew(t *testing.T) {
	b := vm.NewBank()
	m := vm.New(b)
	mapped(t, m, 0, 1, written)
	for addr := range api.Page {
		store(t, m, addr, 200)
	}
	wantFrame(t, m, 0, 0)
	wantUnmap(t, m, 0, 1, 1, nil)
	mapped(t, m, 0, 1, read)
	for addr := range api.Page {
		wantLoad(t, m, addr, 0, nil)
	}
	wantFrame(t, m, 0, 0)
	other := vm.New(b)
	wantUnmap(t, m, 0, 1, 1, nil)
	mapped(t, other, 5, 1, written)
	store(t, other, 5*api.Page+3, 9)
	wantFrame(t, other, 5, 0)
	for addr := range api.Page {
		wantLoad(t, other, 5*api.Page+addr, map[int]byte{3: 9}[addr], nil)
	}
}

// F2: Protect: pages are mapped so from now on, in their frames, with their bytes.
func TestProtect(t *testing.T) {
	b := vm.NewBank()
	m := vm.New(b)
	mapped(t, m, 0, 4, written)
	store(t, m, api.Page, 5)
	protect(t, m, 1, 2, read)
	wantRegions(t, m, region(0, 1, true), region(1, 2, false), region(3, 1, true))
	wantFrame(t, m, 1, 0)
	wantLoad(t, m, api.Page, 5, nil)
	wantNoStore(t, m, api.Page, api.ErrFault)
	wantNoStore(t, m, 2*api.Page, api.ErrFault)
	wantFrame(t, m, 2, -1)
	protect(t, m, 0, 4, written)
	store(t, m, api.Page, 6)
	wantLoad(t, m, api.Page, 6, nil)
	wantRefs(t, b, 0, 1, nil)
	wantLeft(t, b, api.Frames-1)
}

// F2, Z1: ErrFault, if one page isn't mapped; nothing is changed then.
func TestProtectFault(t *testing.T) {
	b := vm.NewBank()
	m := vm.New(b)
	mapped(t, m, 2, 2, written)
	mapped(t, m, 5, 2, read)
	before := state(b, m)
	for from := range api.Pages {
		for many := 1; from+many <= api.Pages; many++ {
			if from >= 2 && from+many <= 4 || from >= 5 && from+many <= 7 {
				continue
			}
			for _, write := range []bool{false, true} {
				wantErr(t, fmt.Sprintf("Protect(%d, %d)", from, many), m.Protect(from, many, write), api.ErrFault)
			}
		}
	}
	if state(b, m) != before {
		t.Error("a refused Protect changed the memory")
	}
}

// F2, Z1: no such page.
func TestFrameNoPage(t *testing.T) {
	m := vm.New(vm.NewBank())
	mapped(t, m, 0, api.Pages, written)
	store(t, m, 0, 1)
	store(t, m, size-1, 1)
	wantFrame(t, m, 0, 0)
	wantFrame(t, m, api.Pages-1, 1)
	for _, n := range strangePage {
		wantFrame(t, m, n, -1)
	}
}

// F3: each byte of a page is by itself; an address is the page's number and the byte's.
func TestBytes(t *testing.T) {
	m := vm.New(vm.NewBank())
	mapped(t, m, 0, api.Pages, written)
	for addr := range size {
		store(t, m, addr, byte(200-addr))
		wantResident(t, m, addr/api.Page+1)
	}
	for addr := range size {
		wantLoad(t, m, addr, byte(200-addr), nil)
	}
	wantResident(t, m, api.Pages)
}

// F3: all values of a byte are kept.
func TestValues(t *testing.T) {
	m := vm.New(vm.NewBank())
	mapped(t, m, 3, 1, written)
	for v := range 256 {
		store(t, m, 3*api.Page+7, byte(v))
		wantLoad(t, m, 3*api.Page+7, byte(v), nil)
	}
}

// F3: what may be read, and written, and what wants a frame, at the edges of regions.
func TestMay(t *testing.T) {
	m := vm.New(vm.NewBank())
	mapped(t, m, 1, 2, read)
	mapped(t, m, 3, 1, written)
	wantMay(t, m, 1*api.Page-1, false, false, false)
	wantMay(t, m, 1*api.Page, true, false, true)
	wantMay(t, m, 3*api.Page-1, true, false, true)
	wantMay(t, m, 3*api.Page, true, true, true)
	wantMay(t, m, 4*api.Page-1, true, true, true)
	wantMay(t, m, 4*api.Page, false, false, false)
	wantLoad(t, m, 1*api.Page, 0, nil)
	store(t, m, 4*api.Page-1, 1)
	wantMay(t, m, 1*api.Page+1, true, false, false)
	wantMay(t, m, 2*api.Page, true, false, true)
	wantMay(t, m, 3*api.Page, true, true, false)
}

// F3: May and Wants put no page into a frame.
func TestMayChangesNothing(t *testing.T) {
	b := vm.NewBank()
	m := vm.New(b)
	mapped(t, m, 0, 4, written)
	for addr := range size {
		wantMay(t, m, addr, addr < 4*api.Page, addr < 4*api.Page, addr < 4*api.Page)
	}
	wantResident(t, m, 0)
	wantLeft(t, b, api.Frames)
}

// F3, Z1: no such address, also if all pages are mapped.
func TestNoAddress(t *testing.T) {
	b := vm.NewBank()
	m := vm.New(b)
	mapped(t, m, 0, api.Pages, written)
	store(t, m, 0, 1)
	store(t, m, size-1, 1)
	before := state(b, m)
	for _, addr := range strangeAddr {
		wantMay(t, m, addr, false, false, false)
		wantLoad(t, m, addr, 0, api.ErrFault)
		wantNoStore(t, m, addr, api.ErrFault)
	}
	if state(b, m) != before {
		t.Error("a refused call changed the memory")
	}
}

// F3: what may not be written may be read: the page is put into a frame with noughts, and a Store that is refused takes none.
func TestReadOnly(t *testing.T) {
	b := vm.NewBank()
	m := vm.New(b)
	mapped(t, m, 0, 1, read)
	wantNoStore(t, m, 0, api.ErrFault)
	wantLeft(t, b, api.Frames)
	wantLoad(t, m, 0, 0, nil)
	wantNoStore(t, m, 0, api.ErrFault)
	wantLoad(t, m, 0, 0, nil)
	wantLeft(t, b, api.Frames-1)
}

// F3, Z1: the pool's error, if no frame is left; nothing is changed. Pages that are in frames alone go on.
func TestFull(t *testing.T) {
	b := vm.NewBank()
	all := fill(t, b, 0)
	m := vm.New(b)
	mapped(t, m, 0, 1, written)
	mapped(t, m, 1, 1, read)
	before := state(b, append(all, m)...)
	wantLoad(t, m, 0, 0, api.ErrFull)
	wantLoad(t, m, api.Page, 0, api.ErrFull)
	wantNoStore(t, m, 0, api.ErrFull)
	wantNoStore(t, m, api.Page, api.ErrFault)
	wantNoStore(t, m, 2*api.Page, api.ErrFault)
	wantLoad(t, m, 2*api.Page, 0, api.ErrFault)
	if state(b, append(all, m)...) != before {
		t.Error("a refused call changed something")
	}
	store(t, all[0], 1, 9)
	wantLoad(t, all[0], 1, 9, nil)
	wantUnmap(t, all[1], 3, 1, 1, nil)
	store(t, m, 0, 5)
	wantFrame(t, m, 0, api.Pages+3)
	wantNoStore(t, all[1], 3*api.Page, api.ErrFault)
}

// F3, F4, Z1: a page in a frame with others isn't written if no frame is left; it may be read, and written once the others are gone.
func TestFullShared(t *testing.T) {
	b := vm.NewBank()
	m := vm.New(b)
	mapped(t, m, 0, 1, written)
	store(t, m, 2, 7)
	child := m.Fork()
	fill(t, b, 0)
	before := state(b, m, child)
	wantNoStore(t, m, 2, api.ErrFull)
	wantNoStore(t, child, 2, api.ErrFull)
	if state(b, m, child) != before {
		t.Error("a refused Store changed something")
	}
	wantLoad(t, m, 2, 7, nil)
	wantLoad(t, child, 2, 7, nil)
	wantUnmap(t, m, 0, 1, 1, nil)
	wantLeft(t, b, 0)
	store(t, child, 2, 8)
	wantLoad(t, child, 2, 8, nil)
}

// F4: a forked memory has all pages mapped alike, in the same frames.
func TestFork(t *testing.T) {
	b := vm.NewBank()
	m := vm.New(b)
	mapped(t, m, 0, 2, written)
	mapped(t, m, 2, 2, read)
	store(t, m, 0, 11)
	wantLoad(t, m, 2*api.Page, 0, nil)
	child := m.Fork()
	wantRegions(t, child, region(0, 2, true), region(2, 2, false))
	for n, f := range []int{0, -1, 1, -1} {
		wantFrame(t, m, n, f)
		wantFrame(t, child, n, f)
	}
	wantResident(t, child, 2)
	wantRefs(t, b, 0, 2, nil)
	wantRefs(t, b, 1, 2, nil)
	wantRefs(t, b, 2, 0, nil)
	wantLeft(t, b, api.Frames-2)
	child.Fork()
	m.Fork()
	wantRefs(t, b, 0, 4, nil)
	wantRefs(t, b, 1, 4, nil)
	wantLeft(t, b, api.Frames-2)
}

// F3, F4: reading parts nothing; who writes first has a frame of its own with the same bytes, who is left alone keeps the old one.
func TestForkWrite(t *testing.T) {
	for _, childFirst := range []bool{false, true} {
		b := vm.NewBank()
		m := vm.New(b)
		mapped(t, m, 0, 2, written)
		store(t, m, 3, 30)
		store(t, m, 4, 40)
		store(t, m, api.Page, 50)
		first, second := m, m.Fork()
		if childFirst {
			first, second = second, first
		}
		wantLoad(t, first, 3, 30, nil)
		wantLoad(t, second, 3, 30, nil)
		wantLeft(t, b, api.Frames-2)
		store(t, first, 3, 31)
		wantFrame(t, first, 0, 2)
		wantFrame(t, second, 0, 0)
		wantRefs(t, b, 0, 1, nil)
		wantRefs(t, b, 2, 1, nil)
		wantRefs(t, b, 1, 2, nil)
		store(t, second, 4, 41)
		wantFrame(t, second, 0, 0)
		wantLeft(t, b, api.Frames-3)
		wantLoad(t, first, 3, 31, nil)
		wantLoad(t, first, 4, 40, nil)
		wantLoad(t, second, 3, 30, nil)
		wantLoad(t, second, 4, 41, nil)
		wantLoad(t, first, api.Page, 50, nil)
		wantLoad(t, second, api.Page, 50, nil)
	}
}

// F3: a page is parted also if the byte stays the same.
func TestForkSameByte(t *testing.T) {
	b := vm.NewBank()
	m := vm.New(b)
	mapped(t, m, 0, 1, written)
	store(t, m, 0, 5)
	child := m.Fork()
	store(t, child, 0, 5)
	wantFrame(t, child, 0, 1)
	wantRefs(t, b, 0, 1, nil)
}

// F3, F4: pages that were in no frame at the fork have nothing in common.
func TestForkUntouched(t *testing.T) {
	b := vm.NewBank()
	m := vm.New(b)
	mapped(t, m, 0, 1, written)
	child := m.Fork()
	store(t, m, 0, 5)
	wantLoad(t, child, 0, 0, nil)
	wantLeft(t, b, api.Frames-2)
}

// F2, F4: what one memory maps, unmaps and protects is nothing to the other one.
func TestForkMappedApart(t *testing.T) {
	b := vm.NewBank()
	m := vm.New(b)
	mapped(t, m, 0, 3, written)
	store(t, m, 0, 5)
	store(t, m, api.Page, 6)
	child := m.Fork()
	wantUnmap(t, child, 0, 1, 1, nil)
	protect(t, child, 1, 1, read)
	mapped(t, child, 8, 1, written)
	wantRegions(t, m, region(0, 3, true))
	wantRegions(t, child, region(1, 1, false), region(2, 1, true), region(8, 1, true))
	wantRefs(t, b, 0, 1, nil)
	wantRefs(t, b, 1, 2, nil)
	wantLoad(t, m, 0, 5, nil)
	wantNoStore(t, child, api.Page, api.ErrFault)
	store(t, m, api.Page, 7)
	wantLoad(t, child, api.Page, 6, nil)
	protect(t, child, 1, 1, written)
	store(t, child, api.Page, 8)
	wantLoad(t, m, api.Page, 7, nil)
	wantLoad(t, child, api.Page, 8, nil)
}

// F1, F4: a frame is free as soon as no page is in it any more, whoever was the last.
func TestForkGone(t *testing.T) {
	b := vm.NewBank()
	m := vm.New(b)
	mapped(t, m, 0, 4, written)
	store(t, m, 0, 1)
	all := []*vm.Memory{m, m.Fork(), m.Fork()}
	all = append(all, all[1].Fork())
	for i, one := range all {
		wantRefs(t, b, 0, len(all)-i, nil)
		wantLeft(t, b, api.Frames-1)
		wantLoad(t, one, 0, 1, nil)
		wantUnmap(t, one, 0, api.Pages, 1, nil)
	}
	wantRefs(t, b, 0, 0, nil)
	wantLeft(t, b, api.Frames)
}

// Z2: what Regions tells is the caller's.
func TestFresh(t *testing.T) {
	m := vm.New(vm.NewBank())
	mapped(t, m, 0, 2, written)
	mapped(t, m, 4, 2, read)
	one, other := m.Regions(), m.Regions()
	one[0], one[1] = region(9, 9, false), region(8, 8, true)
	_ = append(one[:1], region(7, 7, true))
	if !slices.Equal(other, []api.Region{region(0, 2, true), region(4, 2, false)}) {
		t.Errorf("another list was written into: %v", other)
	}
	wantRegions(t, m, region(0, 2, true), region(4, 2, false))
}

// Z2: banks have nothing in common, nor have memories of one bank that weren't forked, but its frames.
func TestApart(t *testing.T) {
	b, c := vm.NewBank(), vm.NewBank()
	m, n, o := vm.New(b), vm.New(b), vm.New(c)
	mapped(t, m, 0, 1, written)
	mapped(t, n, 0, 1, written)
	mapped(t, o, 0, 1, written)
	store(t, m, 0, 1)
	store(t, n, 0, 2)
	store(t, o, 0, 3)
	wantLoad(t, m, 0, 1, nil)
	wantLoad(t, n, 0, 2, nil)
	wantLoad(t, o, 0, 3, nil)
	wantLeft(t, b, api.Frames-2)
	wantLeft(t, c, api.Frames-1)
	wantFrame(t, n, 0, 1)
	wantFrame(t, o, 0, 0)
}
