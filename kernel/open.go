package kernel

import "wardroom/api"

// Open a file, to be written or not; it is made, if it is not there (made).
func (k *Kernel) Open(n int, path string, write, made bool) (int, error) {
	p, err := k.acting(n)
	if err != nil {
		return 0, err
	}
	free := p.free()
	if len(free) == 0 || !k.files.Room(1) {
		return 0, api.ErrFull
	}
	node, err := k.walk(n, path)
	if err == api.ErrNone && made {
		node, err = k.makeAt(n, path, api.File)
	}
	if err != nil {
		return 0, err
	}
	file, err := k.files.Node(node, write)
	if err != nil {
		return 0, err
	}
	p.open[free[0]] = file
	return free[0], nil
}

// Close a file of a process.
func (k *Kernel) Close(n, fd int) error {
	at, err := k.number(n, fd)
	if err != nil {
		return err
	}
	file := *at
	*at = noFile
	return k.files.Close(file)
}

// Dup: one more number for an open file.
func (k *Kernel) Dup(n, fd int) (int, error) {
	at, err := k.number(n, fd)
	if err != nil {
		return 0, err
	}
	p := &k.procs[n]
	free := p.free()
	if len(free) == 0 {
		return 0, api.ErrFull
	}
	p.open[free[0]] = *at
	return free[0], k.files.Share(*at)
}

// Pipe of a process: the numbers of its ends, to be read, to be written.
func (k *Kernel) Pipe(n int) (int, int, error) {
	p, err := k.acting(n)
	if err != nil {
		return 0, 0, err
	}
	free := p.free()
	if len(free) < 2 {
		return 0, 0, api.ErrFull
	}
	reading, writing, err := k.files.Pipe()
	if err != nil {
		return 0, 0, err
	}
	p.open[free[0]], p.open[free[1]] = reading, writing
	return free[0], free[1], nil
}

// Read bytes of an open file, so many at most.
func (k *Kernel) Read(n, fd, many int) (string, error) {
	at, err := k.number(n, fd)
	if err != nil {
		return "", err
	}
	return k.files.Read(*at, many)
}

// Write bytes to an open file: how many were; who writes where nobody reads is told so by a signal.
func (k *Kernel) Write(n, fd int, s string) (int, error) {
	at, err := k.number(n, fd)
	if err != nil {
		return 0, err
	}
	many, err := k.files.Write(*at, s)
	if err == api.ErrBroken {
		k.send(n, api.Pipe)
	}
	return many, err
}

// Seek a place in an open file.
func (k *Kernel) Seek(n, fd, at int) error {
	file, err := k.number(n, fd)
	if err != nil {
		return err
	}
	return k.files.Seek(*file, at)
}

// What an open file is, of which node or pipe, at which place, and how many have it.
func (k *Kernel) What(n, fd int) (kind, of, at, refs int, err error) {
	file, err := k.number(n, fd)
	if err != nil {
		return 0, 0, 0, 0, err
	}
	return k.files.Of(*file)
}

// number of a process that is for an open file: where that one stands, to be changed in place.
func (k *Kernel) number(n, fd int) (*int, error) {
	p, err := k.acting(n)
	if err != nil {
		return nil, err
	}
	if fd < 0 || fd >= api.Fds {
		return nil, api.ErrBound
	}
	if p.open[fd] == noFile {
		return nil, api.ErrNone
	}
	return &p.open[fd], nil
}

// free: the numbers that are for no open file, rising.
func (p *proc) free() []int {
	var all []int
	for fd, file := range p.open {
		if file == noFile {
			all = append(all, fd)
		}
	}
	return all
}
