package console

import "wardroom/kernel"

// done: what is told of an act without an answer.
func done(err error) (string, error) { return "ok", err }

// told: what is told of a number.
func told(n int, err error) (string, error) { return tell(n), err }

// listed: what is told of numbers that may be none.
func listed(numbers []int, err error) (string, error) { return orNone(tell(numbers...)), err }

// numberOfOne: a command with one number, that is answered by one.
func numberOfOne(f func(*kernel.Kernel, int) (int, error)) command {
	return command{"n", func(k *kernel.Kernel, a args) (string, error) { return told(f(k, a.n[0])) }}
}

// numberOfTwo: a command with two numbers, that is answered by one.
func numberOfTwo(f func(*kernel.Kernel, int, int) (int, error)) command {
	return command{"nn", func(k *kernel.Kernel, a args) (string, error) { return told(f(k, a.n[0], a.n[1])) }}
}

// listOfAll: a command that is answered by all of a kind that there are.
func listOfAll(f func(*kernel.Kernel) []int) command {
	return command{"", func(k *kernel.Kernel, _ args) (string, error) { return listed(f(k), nil) }}
}

// one: a command with one number.
func one(f func(*kernel.Kernel, int) error) command {
	return command{"n", func(k *kernel.Kernel, a args) (string, error) { return done(f(k, a.n[0])) }}
}

// two: a command with two numbers.
func two(f func(*kernel.Kernel, int, int) error) command {
	return command{"nn", func(k *kernel.Kernel, a args) (string, error) { return done(f(k, a.n[0], a.n[1])) }}
}

// three: a command with three numbers.
func three(f func(*kernel.Kernel, int, int, int) error) command {
	return command{"nnn", func(k *kernel.Kernel, a args) (string, error) {
		return done(f(k, a.n[0], a.n[1], a.n[2]))
	}}
}

// turned: a command with one number, that turns it on, or off.
func turned(f func(*kernel.Kernel, int, bool) error, on bool) command {
	return one(func(k *kernel.Kernel, n int) error { return f(k, n, on) })
}

// pages: a command on a process's pages, to be written or not.
func pages(f func(*kernel.Kernel, int, int, int, bool) error) command {
	return command{"nnnn", func(k *kernel.Kernel, a args) (string, error) {
		return done(f(k, a.n[0], a.n[1], a.n[2], a.on(3)))
	}}
}

// onPath: a command on a path.
func onPath(f func(*kernel.Kernel, int, string) error) command {
	return command{"np", func(k *kernel.Kernel, a args) (string, error) { return done(f(k, a.n[0], a.s[0])) }}
}

// onPaths: a command on two paths.
func onPaths(f func(*kernel.Kernel, int, string, string) error) command {
	return command{"npp", func(k *kernel.Kernel, a args) (string, error) {
		return done(f(k, a.n[0], a.s[0], a.s[1]))
	}}
}
