package mounts_test

import (
	"strings"
	"testing"

	"wardroom/api"
	"wardroom/mounts"
	"wardroom/tree"
)

// plain: a table that knows from each place where its mount leads; what it
// holds is worked out of that, not counted.
type plain struct {
	root  api.Where
	to    map[api.Where]api.Where
	order []api.Where
}

// spot on a path's way: it knows the one ahead of it.
type spot struct {
	at  api.Where
	was *spot
}

func newPlain(root api.Where) *plain {
	return &plain{root: root, to: map[api.Where]api.Where{}}
}

func (p *plain) copy() *plain {
	other := newPlain(p.root)
	for _, m := range p.mounts() {
		other.bind(m.At, m.To)
	}
	return other
}

func (p *plain) mounts() []api.Mount {
	var all []api.Mount
	for _, from := range p.order {
		all = append(all, mount(from, p.to[from]))
	}
	return all
}

func (p *plain) bind(from, to api.Where) {
	p.to[from] = to
	p.order = append(p.order, from)
}

func (p *plain) unbind(from api.Where) error {
	if _, is := p.to[from]; !is {
		return api.ErrNone
	}
	var rest []api.Where
	for _, w := range p.order {
		if w != from {
			rest = append(rest, w)
		}
	}
	p.order = rest
	delete(p.to, from)
	return nil
}

// refuses: why a mount can't be bound.
func (p *plain) refuses(f *tree.Forest, from, to api.Where) error {
	for _, w := range []api.Where{from, to} {
		_, err := f.Up(w.Node)
		if in, _ := f.Tree(w.Node); err == nil && in != w.Tree {
			err = api.ErrKind
		}
		if err != nil {
			return err
		}
	}
	if from == to {
		return api.ErrState
	}
	if _, is := p.to[from]; is {
		return api.ErrExist
	}
	if len(p.to) >= api.Mounts {
		return api.ErrFull
	}
	return nil
}

// seen from a place, if so many mounts may be gone through.
func (p *plain) seen(w api.Where, most int) api.Where {
	to, is := p.to[w]
	if !is || most == 0 {
		return w
	}
	return p.seen(to, most-1)
}

// walk a path, and tell where it leads, and the raw place of its last name.
func (p *plain) walk(f *tree.Forest, path string) (seen, raw api.Where, err error) {
	here := &spot{at: p.seen(p.root, api.Mounts)}
	raw = p.root
	for _, name := range strings.FieldsFunc(path, func(r rune) bool { return r == '/' }) {
		if name == ".." {
			if here.was != nil {
				here = here.was
			}
			continue
		}
		n, err := f.Find(here.at.Node, name)
		if err != nil {
			return api.Where{}, api.Where{}, err
		}
		in, _ := f.Tree(n)
		raw = at(in, n)
		here = &spot{p.seen(raw, api.Mounts), here}
	}
	return here.at, raw, nil
}

// ahead of a path's last name.
func ahead(path string) (string, string) {
	i := strings.LastIndexByte(path, '/')
	return path[:i], path[i+1:]
}

type dice uint64

func (d *dice) n(most int) int {
	*d = *d*6364136223846793005 + 1442695040888963407
	return int(uint64(*d>>33) % uint64(most))
}

// path: one that may be; mostly its names are there, now and then not.
func (d *dice) path() string {
	s := ""
	for range d.n(6) {
		s += "/" + []string{"a", "a", "b", "b", "c", "..", "f"}[d.n(7)]
	}
	if s == "" {
		return "/"
	}
	return s
}

// place: mostly a directory in its tree; now and then none.
func (d *dice) place(f *tree.Forest) api.Where {
	n := d.n(14)
	if d.n(12) == 0 {
		return at(d.n(api.Trees+2)-1, d.n(api.Nodes+2)-1)
	}
	in, _ := f.Tree(n)
	return at(in, n)
}

// H1 to H3, W8, Z1, Z3: over long rows of acts tables answer as plain ones do.
func TestAgainstPlain(t *testing.T) {
	d := dice(8)
	most := 0
	for range 60 {
		f := tree.New()
		tables, plains := opened(t, f)
		for range 200 {
			i := d.n(len(tables))
			act(t, f, tables[i], plains[i], &d)
			j := d.n(len(tables))
			if d.n(10) == 0 && j != i {
				tables[j].Close()
				tables[j], plains[j] = tables[i].Copy(), plains[i].copy()
			}
			for k := range tables {
				same(t, f, tables[k], plains[k], &d)
				most = max(most, len(plains[k].order))
			}
			sameHeld(t, f, plains)
			if t.Failed() {
				return
			}
		}
	}
	if most < api.Mounts {
		t.Error("no table came to be full")
	}
}

// opened: three tables over a forest of as many trees.
func opened(t *testing.T, f *tree.Forest) ([]*mounts.Table, []*plain) {
	t.Helper()
	var tables []*mounts.Table
	var plains []*plain
	for n := range 3 {
		if _, err := f.Plant(); err != nil {
			t.Fatal(err)
		}
		tables = append(tables, table(t, f, n))
		plains = append(plains, newPlain(at(n, n)))
	}
	return tables, plains
}

func act(t *testing.T, f *tree.Forest, m *mounts.Table, p *plain, d *dice) {
	t.Helper()
	from, to := d.place(f), d.place(f)
	if d.n(3) > 0 { // as paths lead there
		from, _ = m.Raw(d.path())
		to, _ = m.Walk(d.path())
	}
	switch k := d.n(20); {
	case k < 7:
		_, _ = f.Make(d.n(14), []string{"a", "b", "c", "f"}[d.n(4)], api.Dir-d.n(6)/5)
	case k == 7:
		_ = f.Remove(d.n(14), []string{"a", "b", "c", "f"}[d.n(4)])
	case k == 8:
		_ = f.Move(d.n(14), []string{"a", "b"}[d.n(2)], d.n(14), []string{"a", "b"}[d.n(2)])
	case k == 9 && d.n(4) == 0:
		tree := d.n(6) - 1
		root, fault := f.Root(tree)
		wantErr(t, "Pivot", m.Pivot(tree), fault)
		if fault == nil {
			*p = *newPlain(at(tree, root))
		}
	case k < 12:
		wantErr(t, "Unbind", m.Unbind(from), p.unbind(from))
	default:
		fault := p.refuses(f, from, to)
		wantErr(t, "Bind", m.Bind(from, to), fault)
		if fault == nil {
			p.bind(from, to)
		}
	}
}

// same: do both tell the same of themselves, and lead to the same places?
func same(t *testing.T, f *tree.Forest, m *mounts.Table, p *plain, d *dice) {
	t.Helper()
	wantRoot(t, m, p.root)
	wantMounts(t, m, p.mounts()...)
	path := d.path()
	seen, raw, err := p.walk(f, path)
	if err != nil {
		wantNoWalk(t, m, path, err)
	} else {
		wantWalk(t, m, path, seen)
	}
	first, name := ahead(path)
	switch {
	case path == "/":
		wantRaw(t, m, path, p.root, nil)
		return
	case name == "..":
		wantRaw(t, m, path, api.Where{}, api.ErrText)
		wantLast(t, m, path, api.Where{}, "", api.ErrText)
		return
	}
	wantRaw(t, m, path, raw, err)
	dir, _, err := p.walk(f, first)
	if err != nil {
		name = ""
	}
	wantLast(t, m, path, dir, name, err)
}

// sameHeld: each node is held as often as all tables together lead to it.
func sameHeld(t *testing.T, f *tree.Forest, plains []*plain) {
	t.Helper()
	var all []api.Where
	for _, p := range plains {
		all = append(all, p.root)
		for _, m := range p.mounts() {
			all = append(all, m.At, m.To)
		}
	}
	wantHeld(t, f, all...)
}
