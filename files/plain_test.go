package files_test

import (
	"strings"
	"testing"

	"wardroom/api"
)

// plain: a table that keeps its open files by number, nodes and pipes as texts, and
// works out what is held, and which way a pipe is open, by going through all open files.
type plain struct {
	open  map[int]*plainFile
	nodes map[int]*plainNode
	pipes map[int]string
}

type plainFile struct {
	kind, of, at, refs int
	write              bool
}

type plainNode struct {
	named bool
	bytes string
}

func newPlain() *plain {
	return &plain{
		open:  map[int]*plainFile{},
		nodes: map[int]*plainNode{fileA: {named: true}, fileB: {named: true}},
		pipes: map[int]string{},
	}
}

// have: how many open files are of that kind, and of that node or pipe.
func (p *plain) have(kind, of int) int {
	many := 0
	for _, x := range p.open {
		if x.kind == kind && x.of == of {
			many++
		}
	}
	return many
}

// sweep what nobody has any more.
func (p *plain) sweep() {
	for n, x := range p.nodes {
		if !x.named && p.have(api.OnNode, n) == 0 {
			delete(p.nodes, n)
		}
	}
	for n := range p.pipes {
		if p.have(api.Reading, n)+p.have(api.Writing, n) == 0 {
			delete(p.pipes, n)
		}
	}
}

func (p *plain) wrong(n int) error {
	switch {
	case n < 0 || n >= api.Open:
		return api.ErrBound
	case p.open[n] == nil:
		return api.ErrNone
	}
	return nil
}

// free: the lowest free number.
func (p *plain) free() int {
	n := 0
	for p.open[n] != nil {
		n++
	}
	return n
}

func (p *plain) node(n int, write bool) (int, error) {
	switch {
	case n < 0 || n >= api.Nodes:
		return 0, api.ErrBound
	case n == root || n == dirC:
		return 0, api.ErrKind
	case p.nodes[n] == nil:
		return 0, api.ErrNone
	case len(p.open) == api.Open:
		return 0, api.ErrFull
	}
	at := p.free()
	p.open[at] = &plainFile{kind: api.OnNode, of: n, refs: 1, write: write}
	return at, nil
}

func (p *plain) pipe() (int, int, error) {
	if len(p.open)+2 > api.Open || len(p.pipes) == api.Pipes {
		return 0, 0, api.ErrFull
	}
	n := 0
	for p.has(n) {
		n++
	}
	p.pipes[n] = ""
	reading := p.free()
	p.open[reading] = &plainFile{kind: api.Reading, of: n, refs: 1}
	writing := p.free()
	p.open[writing] = &plainFile{kind: api.Writing, of: n, refs: 1}
	return reading, writing, nil
}

func (p *plain) has(pipe int) bool {
	_, is := p.pipes[pipe]
	return is
}

func (p *plain) share(n int) error {
	err := p.wrong(n)
	if err == nil {
		p.open[n].refs++
	}
	return err
}

func (p *plain) close(n int) error {
	if err := p.wrong(n); err != nil {
		return err
	}
	if p.open[n].refs--; p.open[n].refs == 0 {
		delete(p.open, n)
		p.sweep()
	}
	return nil
}

func (p *plain) read(n, many int) (string, error) {
	if err := p.wrong(n); err != nil {
		return "", err
	}
	x := p.open[n]
	if x.kind == api.Writing {
		return "", api.ErrState
	}
	if many < 0 {
		return "", api.ErrBound
	}
	if x.kind == api.Reading {
		return p.readPipe(x.of, many)
	}
	got := ""
	for bytes := p.nodes[x.of].bytes; len(got) < many && x.at < len(bytes); x.at++ {
		got += bytes[x.at : x.at+1]
	}
	return got, nil
}

func (p *plain) readPipe(n, many int) (string, error) {
	bytes := p.pipes[n]
	if bytes == "" && many > 0 && p.have(api.Writing, n) > 0 {
		return "", api.ErrAgain
	}
	many = min(many, len(bytes))
	p.pipes[n] = bytes[many:]
	return bytes[:many], nil
}

func (p *plain) write(n int, s string) (int, error) {
	if err := p.wrong(n); err != nil {
		return 0, err
	}
	x := p.open[n]
	switch {
	case x.kind == api.Writing:
		return p.writePipe(x.of, s)
	case x.kind == api.Reading || !x.write:
		return 0, api.ErrState
	case x.at+len(s) > api.MaxData:
		return 0, api.ErrFull
	case s == "":
		return 0, nil
	}
	node := p.nodes[x.of]
	long := node.bytes + strings.Repeat("\x00", api.MaxData)
	end := max(len(node.bytes), x.at+len(s))
	node.bytes = (long[:x.at] + s + long[x.at+len(s):])[:end]
	x.at += len(s)
	return len(s), nil
}

func (p *plain) writePipe(n int, s string) (int, error) {
	room := api.PipeRoom - len(p.pipes[n])
	switch {
	case p.have(api.Reading, n) == 0:
		return 0, api.ErrBroken
	case room == 0 && s != "":
		return 0, api.ErrAgain
	}
	many := min(room, len(s))
	p.pipes[n] += s[:many]
	return many, nil
}

func (p *plain) seek(n, at int) error {
	if err := p.wrong(n); err != nil {
		return err
	}
	switch {
	case p.open[n].kind != api.OnNode:
		return api.ErrKind
	case at < 0 || at > api.MaxData:
		return api.ErrBound
	}
	p.open[n].at = at
	return nil
}

// remove the name of a file, if it is there.
func (p *plain) remove(n int) error {
	if p.nodes[n] == nil || !p.nodes[n].named {
		return api.ErrNone
	}
	p.nodes[n].named = false
	p.sweep()
	return nil
}

// dice: numbers that look drawn, the same each time.
type dice uint64

func (d *dice) n(most int) int {
	*d = *d*6364136223846793005 + 1442695040888963407
	return int(uint64(*d>>33) % uint64(most))
}

// K1, K2, W5, W7, Z1, Z3: over long rows of acts a table answers as the plain one does.
func TestAgainstPlain(t *testing.T) {
	d := dice(10)
	full := false
	for range 100 {
		x, p := set(t), newPlain()
		// Of how many open files is spoken, and how seldom one is closed, says how full the table comes to be.
		most, seldom := 1+d.n(api.Open), 1+d.n(6)
		for range 300 {
			if d.n(2) == 0 {
				actOnTable(t, x, p, &d, most, seldom)
			} else {
				actOnBytes(t, x, p, &d, d.open(most))
			}
			same(t, x, p)
			full = full || x.Open() == api.Open
			if t.Failed() {
				return
			}
		}
	}
	if !full {
		t.Error("no table came to be full")
	}
}

// open: one of so many numbers, and now and then one that is none.
func (d *dice) open(most int) int {
	if d.n(20) == 0 {
		return strange[d.n(len(strange))]
	}
	return d.n(most)
}

func actOnTable(t *testing.T, x desk, p *plain, d *dice, most, seldom int) {
	t.Helper()
	n := d.open(most)
	switch k := d.n(14); {
	case k < 4:
		node, write := d.n(noNode+2)-1, d.n(3) > 0
		want, fault := p.node(node, write)
		wantNode(t, x, node, write, want, fault)
	case k < 6:
		reading, writing, fault := p.pipe()
		wantPipe(t, x, reading, writing, fault)
	case k < 8:
		wantShare(t, x, n, p.share(n))
	case k < 9 && d.n(40) == 0:
		node := fileA + d.n(2)
		wantErr(t, "Remove", x.forest.Remove(root, " ab"[node:node+1]), p.remove(node))
	default:
		if d.n(seldom) == 0 {
			wantClose(t, x, n, p.close(n))
		}
	}
}

func actOnBytes(t *testing.T, x desk, p *plain, d *dice, n int) {
	t.Helper()
	switch d.n(5) {
	case 0:
		at := d.n(api.MaxData+4) - 1
		wantSeek(t, x, n, at, p.seek(n, at))
	case 1, 2:
		many := d.n(api.PipeRoom+4) - 1
		want, fault := p.read(n, many)
		wantRead(t, x, n, many, want, fault)
	default:
		s := "some\x00of\xffthese bytes"[d.n(9) : 9+d.n(10)]
		want, fault := p.write(n, s)
		wantWrite(t, x, n, s, want, fault)
	}
}

// same: do both tell the same of themselves, and of what they are of?
func same(t *testing.T, x desk, p *plain) {
	t.Helper()
	wantOpen(t, x, len(p.open))
	for n := range api.Open {
		if f := p.open[n]; f != nil {
			wantOf(t, x, n, f.kind, f.of, f.at, f.refs)
		} else {
			wantNone(t, x, n, api.ErrNone)
		}
	}
	if got := x.forest.Nodes(); got != 2+len(p.nodes) {
		t.Errorf("there are %d nodes, want %d", got, 2+len(p.nodes))
	}
	for n, node := range p.nodes {
		wantBytes(t, x, n, node.bytes)
		wantHeld(t, x, n, p.have(api.OnNode, n))
	}
	wantPipes(t, x, len(p.pipes))
	for n, bytes := range p.pipes {
		wantPipeIs(t, x, n, len(bytes), p.have(api.Reading, n), p.have(api.Writing, n))
	}
}
