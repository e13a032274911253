package console

import "wardroom/kernel"

// command: of which kind each word behind its name is (n: a number; x: bytes; p: a path), and what it does with them.
type command struct {
	kinds string
	does  func(k *kernel.Kernel, a args) (string, error)
}

// args: what the words of a line tell, in their order: its numbers; its paths and bytes.
type args struct {
	n []int
	s []string
}

// on: is it so, by the number at that place?
func (a args) on(i int) bool { return a.n[i] > 0 }

// args of a command: false, if the words aren't of its kinds.
func (c command) args(words []string) (args, bool) {
	if len(words) != len(c.kinds) {
		return args{}, false
	}
	var a args
	for i, word := range words {
		if !a.add(c.kinds[i], word) {
			return args{}, false
		}
	}
	return a, true
}

// add what a word of a kind tells.
func (a *args) add(kind byte, word string) bool {
	switch kind {
	case 'n':
		n, is := number(word)
		a.n = append(a.n, n)
		return is
	case 'x':
		s, is := bytesOf(word)
		a.s = append(a.s, s)
		return is
	}
	// Which texts are paths the kernel says.
	a.s = append(a.s, word)
	return true
}
