package kernel_test

import (
	"fmt"
	"slices"
	"strings"
	"testing"

	"wardroom/api"
	"wardroom/kernel"
)

// plain: a kernel of processes, memory, groups and signals that keeps each process by its number, with all that is
// its own; what is charged, taken, or left is worked out by going through all processes.
type plain struct {
	procs  map[int]*plainProc
	spaces map[int]int // the space above each; of the root -1
	groups map[int]*plainGroup
	now    int
}

type plainProc struct {
	live, awake                      bool
	parent, group, code, space, runs int
	pids                             map[int]int // in each space
	pages                            map[int]*plainPage
	box                              [api.Signals + 1]plainSignal
}

// plainPage: its frame is that of another page, too, if both are in one; nil: it is in none.
type plainPage struct {
	write bool
	frame *[api.Page]byte
}

type plainSignal struct {
	waits, held bool
	how         int
}

type plainGroup struct {
	parent, maxProcs, maxPages int
	frozen                     bool
	quota, period, used        int
}

func newPlain() *plain {
	return &plain{
		procs: map[int]*plainProc{0: {
			live: true, awake: true, parent: -1, pids: map[int]int{0: 1}, pages: map[int]*plainPage{},
		}},
		spaces: map[int]int{0: -1},
		groups: map[int]*plainGroup{0: {parent: -1, maxProcs: -1, maxPages: -1}},
	}
}

// lowest number from one on that isn't taken.
func lowest(from int, taken func(n int) bool) int {
	for taken(from) {
		from++
	}
	return from
}

// rising: all numbers of processes, groups or spaces that there are.
func rising[V any](all map[int]V) []int {
	var keys []int
	for k := range all {
		keys = append(keys, k)
	}
	slices.Sort(keys)
	return keys
}

func (p *plain) acting(n int) (*plainProc, error) {
	if n < 0 || n >= api.Procs {
		return nil, api.ErrBound
	}
	if x := p.procs[n]; x != nil && x.live {
		return x, nil
	}
	return nil, api.ErrNone
}

func (p *plain) group(n int) (*plainGroup, error) {
	if n < 0 || n >= api.Groups {
		return nil, api.ErrBound
	}
	if g := p.groups[n]; g != nil {
		return g, nil
	}
	return nil, api.ErrNone
}

// spacesAbove a space, it first.
func (p *plain) spacesAbove(s int) []int {
	var all []int
	for ; s >= 0; s = p.spaces[s] {
		all = append(all, s)
	}
	return all
}

// groupsAbove a group, it first.
func (p *plain) groupsAbove(g int) []int {
	var all []int
	for ; g >= 0; g = p.groups[g].parent {
		all = append(all, g)
	}
	return all
}

// who has a number in a space; nil: nobody.
func (p *plain) who(space, pid int) (int, *plainProc) {
	for n, x := range p.procs {
		if x.pids[space] == pid && pid > 0 {
			return n, x
		}
	}
	return 0, nil
}

func (x *plainProc) resident() int {
	many := 0
	for _, page := range x.pages {
		if page.frame != nil {
			many++
		}
	}
	return many
}

func (x *plainProc) head() bool { return x.pids[x.space] == 1 }

// charged to a group, and to those below it; but for one process.
func (p *plain) charged(group int, but *plainProc) (procs, pages int) {
	for _, x := range p.procs {
		if x != but && slices.Contains(p.groupsAbove(x.group), group) {
			procs++
			pages += x.resident()
		}
	}
	return procs, pages
}

// lacks: the first group, from one up, that has no room for so much more, were one process not there; below 0: none.
func (p *plain) lacks(group, procs, pages int, but *plainProc) int {
	for _, n := range p.groupsAbove(group) {
		g := p.groups[n]
		hasProcs, hasPages := p.charged(n, but)
		if procs > 0 && g.maxProcs >= 0 && hasProcs+procs > g.maxProcs ||
			pages > 0 && g.maxPages >= 0 && hasPages+pages > g.maxPages {
			return n
		}
	}
	return -1
}

func (p *plain) left() int {
	frames := map[*[api.Page]byte]int{}
	for _, x := range p.procs {
		for _, page := range x.pages {
			if page.frame != nil {
				frames[page.frame]++
			}
		}
	}
	return api.Frames - len(frames)
}

// shared: is another page in a page's frame?
func (p *plain) shared(of *plainPage) bool {
	for _, x := range p.procs {
		for _, page := range x.pages {
			if page != of && page.frame == of.frame {
				return true
			}
		}
	}
	return false
}

func (p *plain) fork(n int, own bool) (int, error) {
	x, err := p.acting(n)
	if err != nil {
		return 0, err
	}
	child := lowest(0, func(n int) bool { return p.procs[n] != nil })
	if child == api.Procs {
		return 0, api.ErrFull
	}
	if p.lacks(x.group, 1, x.resident(), nil) >= 0 {
		return 0, api.ErrLimit
	}
	space := x.space
	if own {
		if len(p.spacesAbove(space)) >= api.Deep {
			return 0, api.ErrDeep
		}
		if len(p.spaces) == api.Spaces {
			return 0, api.ErrFull
		}
		space = lowest(0, func(s int) bool { _, is := p.spaces[s]; return is })
		p.spaces[space] = x.space
	}
	c := &plainProc{
		live: true, awake: true, parent: n, group: x.group, space: space,
		pids: map[int]int{}, pages: map[int]*plainPage{}, box: x.box,
	}
	for i := range c.box {
		c.box[i].waits = false
	}
	for i, page := range x.pages {
		c.pages[i] = &plainPage{page.write, page.frame}
	}
	for _, s := range p.spacesAbove(space) {
		c.pids[s] = lowest(1, func(pid int) bool { _, y := p.who(s, pid); return y != nil })
	}
	p.procs[child] = c
	return c.pids[x.space], nil
}

func (p *plain) exit(n, code int) error {
	_, err := p.acting(n)
	switch {
	case err != nil:
		return err
	case code < 0 || code > 255:
		return api.ErrBound
	case n == 0:
		return api.ErrState
	}
	p.end(n, code)
	return nil
}

func (p *plain) end(n, code int) {
	x := p.procs[n]
	x.live, x.code, x.pages = false, code, nil
	if x.head() {
		for _, s := range rising(p.spaces) {
			if s != x.space && slices.Contains(p.spacesAbove(s), x.space) {
				defer delete(p.spaces, s)
			}
		}
		for m, y := range p.procs {
			if m != n && y.pids[x.space] > 0 {
				delete(p.procs, m)
			}
		}
	}
	head, _ := p.who(x.space, 1)
	for _, y := range p.procs {
		if y.parent == n {
			y.parent = head
		}
	}
	p.send(x.parent, api.Kid, false)
}

func (p *plain) wait(n int) (pid, code int, err error) {
	x, err := p.acting(n)
	if err != nil {
		return 0, 0, err
	}
	children, first := 0, -1
	for m, y := range p.procs {
		if y.parent != n {
			continue
		}
		children++
		if !y.live && (first < 0 || y.pids[x.space] < p.procs[first].pids[x.space]) {
			first = m
		}
	}
	if children == 0 {
		return 0, 0, api.ErrNone
	}
	if first < 0 {
		return 0, 0, api.ErrState
	}
	y := p.procs[first]
	delete(p.procs, first)
	if y.head() {
		delete(p.spaces, y.space)
	}
	return y.pids[x.space], y.code, nil
}

func (p *plain) see(n, pid int) (int, error) {
	x, err := p.acting(n)
	if err != nil {
		return 0, err
	}
	m, y := p.who(x.space, pid)
	if y == nil {
		return 0, api.ErrNone
	}
	if !y.live {
		return 0, api.ErrState
	}
	return m, nil
}

func (s *plainSignal) ignored(sig int) bool {
	return s.how == api.Ignore || sig == api.Kid && s.how == api.Default
}

// send a signal to a process that is live, from above its space or not.
func (p *plain) send(n, sig int, above bool) {
	x := p.procs[n]
	if s := &x.box[sig]; !s.ignored(sig) {
		s.waits = true
	}
	if above || !x.head() {
		p.look(n)
	}
}

func (p *plain) look(n int) {
	for sig, s := range p.procs[n].box {
		if s.waits && !s.held && s.how == api.Default {
			p.end(n, 128+sig)
			return
		}
	}
}

func (p *plain) signal(n, pid, sig int) error {
	m, err := p.see(n, pid)
	switch {
	case err != nil:
		return err
	case sig < 1 || sig > api.Signals:
		return api.ErrBound
	case pid == 1:
		return api.ErrState
	}
	p.send(m, sig, p.procs[m].space != p.procs[n].space)
	return nil
}

// change what a process does with a signal.
func (p *plain) change(n, sig int, right bool, change func(s *plainSignal)) error {
	x, err := p.acting(n)
	switch {
	case err != nil:
		return err
	case sig < 1 || sig > api.Signals || !right:
		return api.ErrBound
	case sig == api.Kill:
		return api.ErrState
	}
	s := &x.box[sig]
	change(s)
	s.waits = s.waits && !s.ignored(sig)
	if !x.head() {
		p.look(n)
	}
	return nil
}

func (p *plain) take(n int) (int, error) {
	x, err := p.acting(n)
	if err != nil {
		return 0, err
	}
	for sig := range x.box {
		if s := &x.box[sig]; s.waits && !s.held && s.how == api.Catch {
			s.waits = false
			return sig, nil
		}
	}
	return 0, api.ErrNone
}

// span: each page of it is looked at, then changed; nil: it isn't mapped.
func (p *plain) span(n, from, many int, refuses func(*plainPage) error, change func(x *plainProc, i int)) error {
	x, err := p.acting(n)
	if err != nil {
		return err
	}
	if many < 1 || from < 0 || from+many > api.Pages {
		return api.ErrBound
	}
	for i := from; i < from+many; i++ {
		if err := refuses(x.pages[i]); err != nil {
			return err
		}
	}
	for i := from; i < from+many; i++ {
		change(x, i)
	}
	return nil
}

func (p *plain) mapPages(n, from, many int, write bool) error {
	return p.span(n, from, many, func(page *plainPage) error {
		if page != nil {
			return api.ErrExist
		}
		return nil
	}, func(x *plainProc, i int) { x.pages[i] = &plainPage{write: write} })
}

func (p *plain) protect(n, from, many int, write bool) error {
	return p.span(n, from, many, func(page *plainPage) error {
		if page == nil {
			return api.ErrFault
		}
		return nil
	}, func(x *plainProc, i int) { x.pages[i].write = write })
}

func (p *plain) unmap(n, from, many int) error {
	return p.span(n, from, many, func(*plainPage) error { return nil }, func(x *plainProc, i int) { delete(x.pages, i) })
}

// byteAt: where a byte is that is to be read, or written.
func (p *plain) byteAt(n, addr int, write bool) (*byte, error) {
	x, err := p.acting(n)
	if err != nil {
		return nil, err
	}
	page := x.pages[addr>>3]
	if page == nil || write && !page.write {
		return nil, api.ErrFault
	}
	had := page.frame
	if had == nil {
		if err := p.room(n); err != nil {
			return nil, err
		}
	}
	if had == nil || write && p.shared(page) {
		if p.left() == 0 {
			return nil, api.ErrFull
		}
		page.frame = &[api.Page]byte{}
		if had != nil {
			*page.frame = *had
		}
	}
	return &page.frame[addr&7], nil
}

// room for one page more is made.
func (p *plain) room(n int) error {
	x := p.procs[n]
	for {
		g := p.lacks(x.group, 0, 1, nil)
		if g < 0 {
			return nil
		}
		most := -1
		for _, m := range rising(p.procs) {
			y := p.procs[m]
			if m > 0 && y.live && y.resident() > 0 && slices.Contains(p.groupsAbove(y.group), g) &&
				(most < 0 || y.resident() > p.procs[most].resident()) {
				most = m
			}
		}
		if most < 0 {
			return api.ErrLimit
		}
		p.end(most, 137)
		if !x.live || p.procs[n] != x {
			return api.ErrLimit
		}
	}
}

func (p *plain) add(parent, weight int) (int, error) {
	if weight < 1 || weight > api.MaxWeight {
		return 0, api.ErrBound
	}
	if _, err := p.group(parent); err != nil {
		return 0, err
	}
	if len(p.groupsAbove(parent)) >= api.Deep {
		return 0, api.ErrDeep
	}
	if len(p.groups) == api.Groups {
		return 0, api.ErrFull
	}
	n := lowest(0, func(g int) bool { return p.groups[g] != nil })
	p.groups[n] = &plainGroup{parent: parent, maxProcs: -1, maxPages: -1}
	return n, nil
}

func (p *plain) drop(n int) error {
	if _, err := p.group(n); err != nil {
		return err
	}
	procs, _ := p.charged(n, nil)
	for _, g := range p.groups {
		if g.parent == n {
			procs++
		}
	}
	if n == 0 || procs > 0 {
		return api.ErrBusy
	}
	delete(p.groups, n)
	return nil
}

func (p *plain) limit(n, procs, pages int) error {
	g, err := p.group(n)
	if err != nil {
		return err
	}
	if procs < -1 || procs > api.Procs || pages < -1 || pages > api.Frames {
		return api.ErrBound
	}
	g.maxProcs, g.maxPages = procs, pages
	return nil
}

func (p *plain) join(n, group int) error {
	x, err := p.acting(n)
	if err != nil {
		return err
	}
	if _, err := p.group(group); err != nil {
		return err
	}
	if p.lacks(group, 1, x.resident(), x) >= 0 {
		return api.ErrLimit
	}
	x.group = group
	return nil
}

func (p *plain) freeze(n int, on bool) error {
	g, err := p.group(n)
	if err == nil && n == 0 {
		err = api.ErrState
	}
	if err == nil {
		g.frozen = on
	}
	return err
}

func (p *plain) quota(n, quota, period int) error {
	g, err := p.group(n)
	switch {
	case err != nil:
		return err
	case n == 0:
		return api.ErrState
	case quota < 0 || quota > period || period < 1 || period > api.MaxPeriod:
		return api.ErrBound
	}
	g.quota, g.period, g.used = quota, period, 0
	return nil
}

func (p *plain) mayRun(x *plainProc) bool {
	for _, n := range p.groupsAbove(x.group) {
		if g := p.groups[n]; g.frozen || g.quota > 0 && g.used == g.quota {
			return false
		}
	}
	return x.live && x.awake
}

// tick in which that process is said to run: what is wrong with that? Whose turn it is, is not asked.
func (p *plain) tick(who int) string {
	for _, g := range p.groups {
		if g.quota > 0 && p.now%g.period == 0 {
			g.used = 0
		}
	}
	p.now++
	if who < 0 {
		for n, x := range p.procs {
			if p.mayRun(x) {
				return fmt.Sprintf("nobody ran, and %d might", n)
			}
		}
		return ""
	}
	x := p.procs[who]
	if x == nil || !p.mayRun(x) {
		return fmt.Sprintf("%d ran, and may not", who)
	}
	x.runs++
	for _, g := range p.groupsAbove(x.group) {
		p.groups[g].used++
	}
	return ""
}

// of a process: what it is asked for, by a function.
func of[V any](p *plain, n int, ask func(x *plainProc) V) (v V, err error) {
	x, err := p.acting(n)
	if err != nil {
		return v, err
	}
	return ask(x), nil
}

func (x *plainProc) regions() []api.Region {
	var all []api.Region
	for i := range api.Pages {
		page, last := x.pages[i], x.pages[i-1]
		switch {
		case page == nil:
		case last != nil && last.write == page.write:
			all[len(all)-1].Many++
		default:
			all = append(all, api.Region{From: i, Many: 1, Write: page.write})
		}
	}
	return all
}

func (p *plain) list(x *plainProc) []int {
	var all []int
	for _, y := range p.procs {
		if pid := y.pids[x.space]; pid > 0 {
			all = append(all, pid)
		}
	}
	slices.Sort(all)
	return all
}

func (p *plain) answer(t *testing.T, act string) string {
	t.Helper()
	l := line{t, strings.Fields(act)}
	for _, try := range []func(line) (string, bool){p.answerLife, p.answerMemory, p.answerGroups} {
		if s, is := try(l); is {
			return s
		}
	}
	t.Fatalf("no act: %q", act)
	return ""
}

func (p *plain) answerLife(l line) (string, bool) {
	switch l.text(0) {
	case "procs":
		var all []int
		for _, n := range rising(p.procs) {
			if p.procs[n].live {
				all = append(all, n)
			}
		}
		return list(all, nil), true
	case "spaces":
		return list(rising(p.spaces), nil), true
	case "fork":
		return number(p.fork(l.n(1), l.on(2))), true
	case "exit":
		return done(p.exit(l.n(1), l.n(2))), true
	case "wait":
		pid, code, err := p.wait(l.n(1))
		return told(err, pid, code), true
	case "see":
		return number(p.see(l.n(1), l.n(2))), true
	case "self":
		return number(of(p, l.n(1), func(x *plainProc) int { return x.pids[x.space] })), true
	case "parent":
		return number(of(p, l.n(1), func(x *plainProc) int {
			if x.parent < 0 {
				return 0
			}
			return p.procs[x.parent].pids[x.space]
		})), true
	case "list":
		return list(of(p, l.n(1), p.list)), true
	case "signal":
		return done(p.signal(l.n(1), l.n(2), l.n(3))), true
	case "hold":
		return done(p.change(l.n(1), l.n(2), true, func(s *plainSignal) { s.held = l.on(3) })), true
	case "how":
		right := l.n(3) >= api.Default && l.n(3) <= api.Catch
		return done(p.change(l.n(1), l.n(2), right, func(s *plainSignal) { s.how = l.n(3) })), true
	case "take":
		return number(p.take(l.n(1))), true
	}
	return "", false
}

func (p *plain) answerMemory(l line) (string, bool) {
	switch l.text(0) {
	case "map":
		return done(p.mapPages(l.n(1), l.n(2), l.n(3), l.on(4))), true
	case "unmap":
		return done(p.unmap(l.n(1), l.n(2), l.n(3))), true
	case "protect":
		return done(p.protect(l.n(1), l.n(2), l.n(3), l.on(4))), true
	case "regions":
		return regions(of(p, l.n(1), (*plainProc).regions)), true
	case "resident":
		return number(of(p, l.n(1), (*plainProc).resident)), true
	case "left":
		return number(p.left(), nil), true
	case "load":
		at, err := p.byteAt(l.n(1), l.n(2), false)
		if err != nil {
			return fault(err), true
		}
		return number(int(*at), nil), true
	case "store":
		at, err := p.byteAt(l.n(1), l.n(2), true)
		if err != nil {
			return fault(err), true
		}
		*at = byte(l.n(3))
		return "ok", true
	}
	return "", false
}

func (p *plain) answerGroups(l line) (string, bool) {
	switch l.text(0) {
	case "add":
		return number(p.add(l.n(1), l.n(2))), true
	case "drop":
		return done(p.drop(l.n(1))), true
	case "limit":
		return done(p.limit(l.n(1), l.n(2), l.n(3))), true
	case "group":
		g, err := p.group(l.n(1))
		if err != nil {
			return fault(err), true
		}
		procs, pages := p.charged(l.n(1), nil)
		return told(nil, g.parent, g.maxProcs, g.maxPages, procs, pages), true
	case "of":
		return number(of(p, l.n(1), func(x *plainProc) int { return x.group })), true
	case "ran":
		return number(of(p, l.n(1), func(x *plainProc) int { return x.runs })), true
	case "join":
		return done(p.join(l.n(1), l.n(2))), true
	case "sleep", "wake":
		x, err := p.acting(l.n(1))
		if err == nil {
			x.awake = l.text(0) == "wake"
		}
		return done(err), true
	case "freeze", "thaw":
		return done(p.freeze(l.n(1), l.text(0) == "freeze")), true
	case "quota":
		return done(p.quota(l.n(1), l.n(2), l.n(3))), true
	}
	return "", false
}

// pair: a kernel, and a plain one on which the same is done.
type pair struct {
	k    *kernel.Kernel
	p    *plain
	seen map[string]int // how often an act was answered so
}

func (b pair) act(t *testing.T, act string) {
	t.Helper()
	want := b.p.answer(t, act)
	b.seen[strings.Fields(act)[0]+" "+want]++
	if got := answer(t, b.k, act); got != want {
		t.Fatalf("%s => %s, want %s", act, got, want)
	}
}

func (b pair) tick(t *testing.T) {
	t.Helper()
	if wrong := b.p.tick(b.k.Tick()); wrong != "" {
		t.Fatal(wrong)
	}
}

// fill most frames, so that soon there are none.
func (b pair) fill(t *testing.T) {
	t.Helper()
	for n := range 4 {
		b.act(t, fmt.Sprintf("map %d 0 16 1", n))
		for page := range api.Pages - 1 {
			b.act(t, fmt.Sprintf("store %d %d %d", n, page*api.Page, page))
		}
		b.act(t, fmt.Sprintf("fork %d 0", n))
	}
}

// M1 to M7, W2, W4 to W7, Z1, Z3: over long rows of acts a kernel answers as the plain one does.
func TestAgainstPlain(t *testing.T) {
	d := dice(12)
	seen := map[string]int{}
	for run := range 60 {
		b := pair{kernel.New(), newPlain(), seen}
		if run%5 == 0 {
			b.fill(t)
		}
		// Of how many processes is spoken, and how seldom one ends or a limit is set, says how full the kernel comes to be.
		many, seldom := []int{3, 5, 9, api.Procs + 1}[d.n(4)], 1+d.n(10)
		for range 250 {
			act := drawn(&d, d.n(many), seldom)
			b.act(t, act)
			for range d.n(4) {
				b.tick(t)
			}
			if d.one(4) && !b.same(t) {
				t.Fatalf("behind %s", act)
			}
		}
	}
	for _, rare := range []string{
		"fork error 4", "fork error 6", "fork error 7", "load error 4", "load error 6", "store error 4", "store error 6",
		"join error 6", "signal error 8", "drop error 5", "drop ok", "wait error 2", "wait error 8",
	} {
		if seen[rare] == 0 {
			t.Errorf("no act was answered so: %s", rare)
		}
	}
}

// drawn: an act of a process; the more seldom, the fewer of them end, and the fewer limits are set.
func drawn(d *dice, n, seldom int) string {
	addr := 8*d.n(6+seldom) + d.n(8)
	if d.one(30) {
		n, addr = -1, addr-100*d.flag()
	}
	switch d.n(26 + 2*seldom) {
	case 0, 1, 2, 3:
		return fmt.Sprint("fork ", n, " ", d.flag())
	case 4:
		if d.one(seldom) {
			return fmt.Sprintf("exit %d %d", n, d.n(260)-2)
		}
	case 5:
		return fmt.Sprintf("wait %d", n)
	case 6:
		if d.one(seldom) {
			return fmt.Sprintf("signal %d %d %d", n, d.n(7), d.n(11)-1)
		}
	case 7:
		return fmt.Sprintf("hold %d %d %d", n, d.n(10), d.flag())
	case 8:
		return fmt.Sprintf("how %d %d %d", n, d.n(10), d.n(5)-1)
	case 9:
		return fmt.Sprintf("take %d", n)
	case 10, 11, 23, 24:
		return fmt.Sprintf("map %d %d %d %d", n, d.n(12)-d.n(20)/19, d.n(6), d.n(4))
	case 12:
		return fmt.Sprintf("unmap %d %d %d", n, d.n(17), d.n(4))
	case 13:
		return fmt.Sprintf("protect %d %d %d %d", n, d.n(8), d.n(4), d.flag())
	case 14, 15:
		return fmt.Sprintf("add %d %d", d.n(5), d.n(1003)-1)
	case 16:
		if d.one(seldom) {
			return fmt.Sprintf("limit %d %d %d", d.n(6), d.n(9)-2, d.n(14)-2)
		}
		return fmt.Sprintf("limit %d %d %d", d.n(6), d.n(24)-2, d.n(68)-2)
	case 17:
		return fmt.Sprintf("drop %d", d.n(11)-1)
	case 18, 19:
		return fmt.Sprintf("join %d %d", n, d.n(7)-d.n(10)/9)
	case 20:
		return fmt.Sprintf("%s %d", []string{"sleep", "wake"}[d.flag()], n)
	case 21:
		return fmt.Sprintf("%s %d", []string{"freeze", "thaw"}[d.flag()], d.n(6))
	case 22:
		return fmt.Sprintf("quota %d %d %d", d.n(6), d.n(6)-1, d.n(7))
	}
	if d.one(3) {
		return fmt.Sprintf("load %d %d", n, addr)
	}
	return fmt.Sprintf("store %d %d %d", n, addr, d.n(256))
}

// same: do both tell the same of themselves?
func (b pair) same(t *testing.T) bool {
	t.Helper()
	acts := []string{"procs", "spaces", "left"}
	for g := range api.Groups {
		acts = append(acts, fmt.Sprint("group ", g))
	}
	for n := range api.Procs {
		for _, ask := range []string{"self", "parent", "list", "of", "ran", "resident", "regions"} {
			acts = append(acts, fmt.Sprint(ask, " ", n))
		}
		acts = append(acts, fmt.Sprintf("see %d %d", n, 1+n%5))
	}
	for _, act := range acts {
		if got, want := answer(t, b.k, act), b.p.answer(t, act); got != want {
			t.Errorf("%s => %s, want %s", act, got, want)
		}
	}
	return !t.Failed()
}
