package tree_test

import (
	"slices"
	"strings"
	"testing"

	"wardroom/api"
	"wardroom/tree"
)

// plain: a forest that keeps where each name leads, and works out links,
// sizes and what a directory is in by going through all names.
type plain struct {
	nodes map[int]*plainNode
	roots []int
	leads map[lead]int
}

type lead struct {
	dir  int
	name string
}

type plainNode struct {
	kind, tree, held int
	bytes            string
}

func newPlain() *plain {
	return &plain{nodes: map[int]*plainNode{}, leads: map[lead]int{}}
}

func (p *plain) wrong(n, kind int) error {
	switch x := p.nodes[n]; {
	case n < 0 || n >= api.Nodes:
		return api.ErrBound
	case x == nil:
		return api.ErrNone
	case kind != 0 && x.kind != kind:
		return api.ErrKind
	}
	return nil
}

func (p *plain) links(n int) int {
	many := 0
	for _, kid := range p.leads {
		if kid == n {
			many++
		}
	}
	if slices.Contains(p.roots, n) {
		many++
	}
	return many
}

func (p *plain) names(n int) []string {
	var all []string
	for l := range p.leads {
		if l.dir == n {
			all = append(all, l.name)
		}
	}
	slices.Sort(all)
	return all
}

func (p *plain) up(n int) (int, error) {
	if err := p.wrong(n, api.Dir); err != nil {
		return 0, err
	}
	for l, kid := range p.leads {
		if kid == n {
			return l.dir, nil
		}
	}
	return n, nil
}

func (p *plain) of(n int) (api.Node, error) {
	if err := p.wrong(n, 0); err != nil {
		return api.Node{}, err
	}
	x := p.nodes[n]
	return api.Node{Kind: x.kind, Links: p.links(n), Held: x.held, Size: len(x.bytes) + len(p.names(n))}, nil
}

// add a node of the lowest free number.
func (p *plain) add(kind, tree int) (int, error) {
	for n := range api.Nodes {
		if p.nodes[n] == nil {
			p.nodes[n] = &plainNode{kind: kind, tree: tree}
			return n, nil
		}
	}
	return 0, api.ErrFull
}

func (p *plain) sweep() {
	for n, x := range p.nodes {
		if x.held == 0 && p.links(n) == 0 {
			delete(p.nodes, n)
		}
	}
}

func (p *plain) plant() (int, error) {
	tree := len(p.roots)
	if tree >= api.Trees {
		return 0, api.ErrFull
	}
	n, err := p.add(api.Dir, tree)
	if err != nil {
		return 0, err
	}
	p.roots = append(p.roots, n)
	return tree, nil
}

func (p *plain) find(n int, name string) (int, error) {
	if err := p.wrong(n, api.Dir); err != nil {
		return 0, err
	}
	if kid, is := p.leads[lead{n, name}]; is {
		return kid, nil
	}
	return 0, api.ErrNone
}

func plainName(s string) bool {
	return s != "" && s != "." && s != ".." && len(s) <= api.MaxName &&
		strings.Trim(s, ".0123456789abcdefghijklmnopqrstuvwxyz") == ""
}

// wanted: what is wrong with a name that is to be in a directory.
func (p *plain) wanted(n int, name string) error {
	err := p.wrong(n, api.Dir)
	_, is := p.leads[lead{n, name}]
	switch {
	case err != nil:
		return err
	case !plainName(name):
		return api.ErrText
	case is:
		return api.ErrExist
	case len(p.names(n)) >= api.Kids:
		return api.ErrFull
	}
	return nil
}

func (p *plain) make(n int, name string, kind int) (int, error) {
	if kind != api.File && kind != api.Dir {
		return 0, api.ErrBound
	}
	if err := p.wanted(n, name); err != nil {
		return 0, err
	}
	kid, err := p.add(kind, p.nodes[n].tree)
	if err == nil {
		p.leads[lead{n, name}] = kid
	}
	return kid, err
}

func (p *plain) link(kid, n int, name string) error {
	if err := p.wrong(kid, api.File); err != nil {
		return err
	}
	if err := p.wanted(n, name); err != nil {
		return err
	}
	if p.nodes[kid].tree != p.nodes[n].tree {
		return api.ErrKind
	}
	p.leads[lead{n, name}] = kid
	return nil
}

func (p *plain) remove(n int, name string) error {
	kid, err := p.find(n, name)
	if err != nil {
		return err
	}
	if x := p.nodes[kid]; x.kind == api.Dir && (x.held > 0 || len(p.names(kid)) > 0) {
		return api.ErrBusy
	}
	delete(p.leads, lead{n, name})
	p.sweep()
	return nil
}

// holds: is a directory another one, or above it?
func (p *plain) holds(dir, other int) bool {
	if dir == other {
		return true
	}
	for l, kid := range p.leads {
		if l.dir == dir && p.nodes[kid].kind == api.Dir && p.holds(kid, other) {
			return true
		}
	}
	return false
}

func (p *plain) move(n int, name string, to int, other string) error {
	kid, err := p.find(n, name)
	if err != nil {
		return err
	}
	if err := p.wrong(to, api.Dir); err != nil {
		return err
	}
	if p.nodes[n].tree != p.nodes[to].tree {
		return api.ErrKind
	}
	if p.nodes[kid].kind == api.Dir && p.holds(kid, to) {
		return api.ErrBusy
	}
	delete(p.leads, lead{n, name})
	if err := p.wanted(to, other); err != nil {
		p.leads[lead{n, name}] = kid
		return err
	}
	p.leads[lead{to, other}] = kid
	return nil
}

func (p *plain) hold(n int) error {
	err := p.wrong(n, 0)
	if err == nil {
		p.nodes[n].held++
	}
	return err
}

func (p *plain) let(n int) error {
	if err := p.wrong(n, 0); err != nil {
		return err
	}
	if p.nodes[n].held == 0 {
		return api.ErrState
	}
	p.nodes[n].held--
	p.sweep()
	return nil
}

func (p *plain) read(n, at, many int) (string, error) {
	if err := p.wrong(n, api.File); err != nil {
		return "", err
	}
	if at < 0 || many < 0 {
		return "", api.ErrBound
	}
	got := ""
	for i := at; i < at+many && i < len(p.nodes[n].bytes); i++ {
		got += p.nodes[n].bytes[i : i+1]
	}
	return got, nil
}

func (p *plain) write(n, at int, s string) error {
	if err := p.wrong(n, api.File); err != nil {
		return err
	}
	if at < 0 {
		return api.ErrBound
	}
	if at+len(s) > api.MaxData {
		return api.ErrFull
	}
	if s != "" {
		old := p.nodes[n].bytes
		long := old + strings.Repeat("\x00", api.MaxData)
		p.nodes[n].bytes = long[:at] + s
		if end := at + len(s); end < len(old) {
			p.nodes[n].bytes += old[end:]
		}
	}
	return nil
}

func (p *plain) cut(n, size int) error {
	if err := p.wrong(n, api.File); err != nil {
		return err
	}
	if size < 0 || size > len(p.nodes[n].bytes) {
		return api.ErrBound
	}
	p.nodes[n].bytes = p.nodes[n].bytes[:size]
	return nil
}

// dice: numbers that look drawn, the same each time.
type dice uint64

func (d *dice) n(most int) int {
	*d = *d*6364136223846793005 + 1442695040888963407
	return int(uint64(*d>>33) % uint64(most))
}

// name: mostly one of a few; now and then one that may not be.
func (d *dice) name() string {
	if d.n(25) == 0 {
		return []string{"", ".", "..", "A", "a/b", "a-b", "ninebytes"}[d.n(7)]
	}
	return []string{"a", "b", "c", "d", "e", "f", "a.b", "...", "0", "longname"}[d.n(10)]
}

// nodes of a forest, and now and then a number that is none.
func (d *dice) node(most int) int {
	if d.n(20) == 0 {
		return []int{-1, api.Nodes, api.Nodes - 1, api.Nodes + 1}[d.n(4)]
	}
	return d.n(most)
}

// G1 to G5, W8, Z1, Z3: over long rows of acts a forest answers as the plain one does.
func TestAgainstPlain(t *testing.T) {
	d := dice(7)
	full := false
	for range 40 {
		f, p := tree.New(), newPlain()
		// Of how many nodes is spoken, and how seldom names are removed, says how full the forest comes to be.
		most, seldom := 4+d.n(api.Nodes-4), 1+d.n(4)
		plant(t, f, 0)
		p.plant()
		for range 300 {
			if d.n(3) == 0 {
				actOnBytes(t, f, p, &d, d.node(most))
			} else {
				actOnNames(t, f, p, &d, most, seldom)
			}
			same(t, f, p)
			full = full || f.Nodes() == api.Nodes
			if t.Failed() {
				return
			}
		}
	}
	if !full {
		t.Error("no forest came to be full")
	}
}

func actOnNames(t *testing.T, f *tree.Forest, p *plain, d *dice, most, seldom int) {
	t.Helper()
	n, to, name, other := d.node(most), d.node(most), d.name(), d.name()
	switch k := d.n(24); {
	case k == 0:
		got, err := f.Plant()
		want, fault := p.plant()
		wantNum(t, "Plant", got, err, want, fault)
	case k < 3:
		wantErr(t, "Link", f.Link(n, to, name), p.link(n, to, name))
	case k < 7:
		if d.n(seldom) == 0 {
			wantErr(t, "Remove", f.Remove(n, name), p.remove(n, name))
		}
	case k < 12:
		wantErr(t, "Move", f.Move(n, name, to, other), p.move(n, name, to, other))
	default:
		kind := api.File + d.n(2)
		if d.n(20) == 0 {
			kind = d.n(6) - 2
		}
		got, err := f.Make(n, name, kind)
		want, fault := p.make(n, name, kind)
		wantNum(t, "Make", got, err, want, fault)
	}
}

func actOnBytes(t *testing.T, f *tree.Forest, p *plain, d *dice, n int) {
	t.Helper()
	at, many := d.n(api.MaxData+4)-1, d.n(16)-1
	switch d.n(8) {
	case 0, 1:
		wantErr(t, "Hold", f.Hold(n), p.hold(n))
	case 2, 3:
		wantErr(t, "Let", f.Let(n), p.let(n))
	case 4:
		wantErr(t, "Cut", f.Cut(n, at), p.cut(n, at))
	case 5:
		got, err := f.Read(n, at, many)
		want, fault := p.read(n, at, many)
		wantText(t, "Read", got, err, want, fault)
	default:
		s := "0123\x00\xff6789abcde"[:max(many, 0)]
		wantErr(t, "Write", f.Write(n, at, s), p.write(n, at, s))
	}
}

// same: do both tell the same of themselves?
func same(t *testing.T, f *tree.Forest, p *plain) {
	t.Helper()
	if got := f.Nodes(); got != len(p.nodes) {
		t.Errorf("Nodes(): %d, want %d", got, len(p.nodes))
	}
	for tree := range api.Trees {
		want, fault := 0, error(api.ErrNone)
		if tree < len(p.roots) {
			want, fault = p.roots[tree], nil
		}
		wantRoot(t, f, tree, want, fault)
	}
	for n := range api.Nodes {
		sameNode(t, f, p, n)
	}
}

func sameNode(t *testing.T, f *tree.Forest, p *plain, n int) {
	t.Helper()
	x, err := p.of(n)
	wantOf(t, f, n, x, err)
	up, err := p.up(n)
	wantUp(t, f, n, up, err)
	all, err := p.read(n, 0, api.MaxData)
	wantRead(t, f, n, 0, api.MaxData, all, err)
	in, err := 0, p.wrong(n, 0)
	if err == nil {
		in = p.nodes[n].tree
	}
	wantTree(t, f, n, in, err)
	if err := p.wrong(n, api.Dir); err != nil {
		wantNoList(t, f, n, err)
		return
	}
	wantList(t, f, n, p.names(n)...)
	for l, kid := range p.leads {
		if l.dir == n {
			wantFind(t, f, n, l.name, kid, nil)
		}
	}
}
