package console

import (
	"maps"
	"math"
	"strings"

	"wardroom/api"
	"wardroom/kernel"
)

// commands of all kinds, by their names.
func commands() map[string]command {
	known := map[string]command{}
	for _, some := range []map[string]command{ofLife(), ofMemory(), ofGroups(), ofFiles(), ofPaths()} {
		maps.Copy(known, some)
	}
	return known
}

// ofLife: who there is, and what they are told.
func ofLife() map[string]command {
	return map[string]command{
		"fork": {"nn", func(k *kernel.Kernel, a args) (string, error) {
			return told(k.Fork(a.n[0], a.on(1)))
		}},
		"exit": two((*kernel.Kernel).Exit),
		"wait": {"n", func(k *kernel.Kernel, a args) (string, error) {
			c, err := k.Wait(a.n[0])
			return tell(c.Pid, c.Code), err
		}},
		"see":    numberOfTwo((*kernel.Kernel).See),
		"self":   numberOfOne((*kernel.Kernel).Self),
		"parent": numberOfOne((*kernel.Kernel).Parent),
		"list": {"n", func(k *kernel.Kernel, a args) (string, error) {
			return listed(k.List(a.n[0]))
		}},
		"procs":  listOfAll((*kernel.Kernel).Procs),
		"spaces": listOfAll((*kernel.Kernel).Spaces),
		"signal": three((*kernel.Kernel).Signal),
		"hold": {"nnn", func(k *kernel.Kernel, a args) (string, error) {
			return done(k.Hold(a.n[0], a.n[1], a.on(2)))
		}},
		"how":  three((*kernel.Kernel).How),
		"take": numberOfOne((*kernel.Kernel).Take),
	}
}

// ofMemory: pages and frames.
func ofMemory() map[string]command {
	return map[string]command{
		"map":     pages((*kernel.Kernel).Map),
		"protect": pages((*kernel.Kernel).Protect),
		"unmap":   three((*kernel.Kernel).Unmap),
		"regions": {"n", func(k *kernel.Kernel, a args) (string, error) {
			return regions(k.Regions(a.n[0]))
		}},
		"resident": numberOfOne((*kernel.Kernel).Resident),
		"left": {"", func(k *kernel.Kernel, _ args) (string, error) {
			return told(k.Left(), nil)
		}},
		"load": numberOfTwo(func(k *kernel.Kernel, n, addr int) (int, error) {
			v, err := k.Load(n, addr)
			return int(v), err
		}),
		"store": three(func(k *kernel.Kernel, n, addr, v int) error {
			if v < 0 || v > math.MaxUint8 {
				return api.ErrBound
			}
			return k.Store(n, addr, byte(v))
		}),
	}
}

// regions: three numbers of each.
func regions(all []api.Region, err error) (string, error) {
	var numbers []int
	for _, r := range all {
		write := 0
		if r.Write {
			write = 1
		}
		numbers = append(numbers, r.From, r.Many, write)
	}
	return listed(numbers, err)
}

// ofGroups: limits, and who runs.
func ofGroups() map[string]command {
	return map[string]command{
		"add":   numberOfTwo((*kernel.Kernel).AddGroup),
		"drop":  one((*kernel.Kernel).DropGroup),
		"limit": three((*kernel.Kernel).Limit),
		"group": {"n", func(k *kernel.Kernel, a args) (string, error) {
			g, err := k.Group(a.n[0])
			return tell(g.Parent, g.MaxProcs, g.MaxPages, g.Procs, g.Pages), err
		}},
		"of":     numberOfOne((*kernel.Kernel).Of),
		"join":   two((*kernel.Kernel).Join),
		"sleep":  turned((*kernel.Kernel).Sleep, true),
		"wake":   turned((*kernel.Kernel).Sleep, false),
		"freeze": turned((*kernel.Kernel).Freeze, true),
		"thaw":   turned((*kernel.Kernel).Freeze, false),
		"quota":  three((*kernel.Kernel).Quota),
		"run": {"n", func(k *kernel.Kernel, a args) (string, error) {
			return listed(ticks(k, a.n[0]))
		}},
		"ran": numberOfOne((*kernel.Kernel).Ran),
	}
}

// ticks, so many: who ran in each.
func ticks(k *kernel.Kernel, times int) ([]int, error) {
	if times < 0 || times > api.MaxTicks {
		return nil, api.ErrBound
	}
	ran := make([]int, times)
	for i := range ran {
		ran[i] = k.Tick()
	}
	return ran, nil
}

// ofFiles: what is open.
func ofFiles() map[string]command {
	return map[string]command{
		"open": {"nnnp", func(k *kernel.Kernel, a args) (string, error) {
			return told(k.Open(a.n[0], a.s[0], a.on(1), a.on(2)))
		}},
		"close": two((*kernel.Kernel).Close),
		"dup":   numberOfTwo((*kernel.Kernel).Dup),
		"pipe": {"n", func(k *kernel.Kernel, a args) (string, error) {
			reading, writing, err := k.Pipe(a.n[0])
			return tell(reading, writing), err
		}},
		"read": {"nnn", func(k *kernel.Kernel, a args) (string, error) {
			s, err := k.Read(a.n[0], a.n[1], a.n[2])
			return orNone(digits(s)), err
		}},
		"write": {"nnx", func(k *kernel.Kernel, a args) (string, error) {
			return told(k.Write(a.n[0], a.n[1], a.s[0]))
		}},
		"seek": three((*kernel.Kernel).Seek),
		"what": {"nn", func(k *kernel.Kernel, a args) (string, error) {
			kind, of, at, refs, err := k.What(a.n[0], a.n[1])
			return tell(kind, of, at, refs), err
		}},
	}
}

// ofPaths: directories, trees, mounts.
func ofPaths() map[string]command {
	return map[string]command{
		"mkdir":  onPath((*kernel.Kernel).MakeDir),
		"remove": onPath((*kernel.Kernel).Remove),
		"move":   onPaths((*kernel.Kernel).Move),
		"link":   onPaths((*kernel.Kernel).Link),
		"names": {"np", func(k *kernel.Kernel, a args) (string, error) {
			names, err := k.Names(a.n[0], a.s[0])
			return orNone(strings.Join(names, " ")), err
		}},
		"node": {"np", func(k *kernel.Kernel, a args) (string, error) {
			x, err := k.Node(a.n[0], a.s[0])
			return tell(x.Kind, x.Links, x.Held, x.Size), err
		}},
		"bind":   onPaths((*kernel.Kernel).Bind),
		"unbind": onPath((*kernel.Kernel).Unbind),
		"plant": {"", func(k *kernel.Kernel, _ args) (string, error) {
			return told(k.Plant())
		}},
		"pivot": two((*kernel.Kernel).Pivot),
		"counts": {"", func(k *kernel.Kernel, _ args) (string, error) {
			return tell(k.Counts()), nil
		}},
	}
}
