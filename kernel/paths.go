package kernel

import (
	"wardroom/api"
	"wardroom/mounts"
)

// MakeDir: a directory.
func (k *Kernel) MakeDir(n int, path string) error {
	_, err := k.makeAt(n, path, api.Dir)
	return err
}

// Remove a name.
func (k *Kernel) Remove(n int, path string) error {
	t, err := k.table(n)
	if err != nil {
		return err
	}
	dir, name, err := t.Last(path)
	if err != nil {
		return err
	}
	return k.forest.Remove(dir.Node, name)
}

// Move a name to another one.
func (k *Kernel) Move(n int, path, other string) error {
	t, err := k.table(n)
	if err != nil {
		return err
	}
	from, name, err := t.Last(path)
	if err != nil {
		return err
	}
	to, called, err := t.Last(other)
	if err != nil {
		return err
	}
	return k.forest.Move(from.Node, name, to.Node, called)
}

// Link a file under one more name.
func (k *Kernel) Link(n int, path, other string) error {
	t, err := k.table(n)
	if err != nil {
		return err
	}
	kid, err := t.Walk(path)
	if err != nil {
		return err
	}
	dir, name, err := t.Last(other)
	if err != nil {
		return err
	}
	return k.forest.Link(kid.Node, dir.Node, name)
}

// Names in a directory.
func (k *Kernel) Names(n int, path string) ([]string, error) {
	node, err := k.walk(n, path)
	if err != nil {
		return nil, err
	}
	return k.forest.List(node)
}

// Node to which a path leads.
func (k *Kernel) Node(n int, path string) (api.Node, error) {
	node, err := k.walk(n, path)
	if err != nil {
		return api.Node{}, err
	}
	return k.forest.Of(node)
}

// Bind: at a path another one's directory is seen, in the process's space.
func (k *Kernel) Bind(n int, path, other string) error {
	t, err := k.table(n)
	if err != nil {
		return err
	}
	at, err := t.Raw(path)
	if err != nil {
		return err
	}
	to, err := t.Walk(other)
	if err != nil {
		return err
	}
	return t.Bind(at, to)
}

// Unbind what is seen at a path.
func (k *Kernel) Unbind(n int, path string) error {
	t, err := k.table(n)
	if err != nil {
		return err
	}
	at, err := t.Raw(path)
	if err != nil {
		return err
	}
	return t.Unbind(at)
}

// Plant one more tree: its number.
func (k *Kernel) Plant() (int, error) { return k.forest.Plant() }

// Pivot: the head of a space turns its root to another tree's.
func (k *Kernel) Pivot(n, to int) error {
	t, err := k.table(n)
	if err != nil {
		return err
	}
	if !k.isHead(n) {
		return api.ErrState
	}
	return t.Pivot(to)
}

// Counts: how many nodes, pipes, and open files there are.
func (k *Kernel) Counts() (nodes, pipes, open int) {
	return k.forest.Nodes(), k.pipes.Pipes(), k.files.Open()
}

// table by which the paths of a process are walked.
func (k *Kernel) table(n int) (*mounts.Table, error) {
	if _, err := k.acting(n); err != nil {
		return nil, err
	}
	return k.tables[k.space(n)], nil
}

// walk a path of a process: the node to which it leads.
func (k *Kernel) walk(n int, path string) (int, error) {
	t, err := k.table(n)
	if err != nil {
		return 0, err
	}
	w, err := t.Walk(path)
	return w.Node, err
}

// makeAt: a file or a directory at a path of a process; its node.
func (k *Kernel) makeAt(n int, path string, kind int) (int, error) {
	t, err := k.table(n)
	if err != nil {
		return 0, err
	}
	dir, name, err := t.Last(path)
	if err != nil {
		return 0, err
	}
	return k.forest.Make(dir.Node, name, kind)
}
