package console_test

import (
	"encoding/hex"
	"fmt"
	"regexp"
	"strconv"
	"strings"
	"testing"

	"wardroom/api"
	"wardroom/kernel"
)

// plain: a kernel that is called as the table of N1 says; which lines there are is told by expressions.
type plain struct {
	k     *kernel.Kernel
	words []string
}

// forms of lines: N: a number, P: a path, X: bytes.
var forms = []string{
	"fork N N", "(?:self|parent|take|resident|of|ran|wait|list|regions|group|pipe|drop|sleep|wake|freeze|thaw|run) N",
	"(?:see|dup|add|load|exit|join|close|pivot|what) N N", "plant|left|procs|spaces|counts", "open N N N P",
	"write N N X", "(?:signal|hold|how|unmap|store|limit|quota|seek|read) N N N", "(?:map|protect) N N N N",
	"(?:mkdir|remove|unbind|names|node) N P", "(?:move|link|bind) N P P",
}

// form of all lines.
func form() *regexp.Regexp {
	s := `\A(?:` + strings.Join(forms, "|") + `)\z`
	// Names of commands have no great letters.
	s = strings.ReplaceAll(s, "N", `(?:-1|0|[1-9][0-9]{0,4})`)
	s = strings.ReplaceAll(s, "P", `[^ ]+`)
	return regexp.MustCompile("(?s)" + strings.ReplaceAll(s, "X", `(?:-|(?:[0-9a-f][0-9a-f])+)`))
}

func (p plain) n(i int) int {
	n, _ := strconv.Atoi(p.words[i])
	return n
}

func (p plain) on(i int) bool { return p.n(i) > 0 }

// answer to a line.
func (p plain) answer(lines *regexp.Regexp, line string) string {
	if len(line) > api.MaxLine || !lines.MatchString(line) {
		return "error 9"
	}
	p.words = strings.Split(line, " ")
	for _, some := range []func() (string, error, bool){p.ofLife, p.ofMemory, p.ofGroups, p.ofFiles, p.ofPaths} {
		s, err, is := some()
		if is && err != nil {
			return fmt.Sprint("error ", int(err.(api.Errno)))
		}
		if is {
			return s
		}
	}
	return "no command " + line
}

// told: numbers, or what else there is, with blanks between.
func told(err error, all ...any) (string, error, bool) {
	s := strings.Trim(fmt.Sprintln(all...), "\n")
	s = strings.NewReplacer("[]", "-", "[", "", "]", "").Replace(s)
	return s, err, true
}

func done(err error) (string, error, bool) { return "ok", err, true }

func number(n int, err error) (string, error, bool) { return told(err, n) }

func list(l []int, err error) (string, error, bool) { return told(err, l) }

func (p plain) ofLife() (string, error, bool) {
	switch p.words[0] {
	case "fork":
		return number(p.k.Fork(p.n(1), p.on(2)))
	case "exit":
		return done(p.k.Exit(p.n(1), p.n(2)))
	case "wait":
		c, err := p.k.Wait(p.n(1))
		return told(err, c.Pid, c.Code)
	case "see":
		return number(p.k.See(p.n(1), p.n(2)))
	case "self":
		return number(p.k.Self(p.n(1)))
	case "parent":
		return number(p.k.Parent(p.n(1)))
	case "list":
		return list(p.k.List(p.n(1)))
	case "procs":
		return told(nil, p.k.Procs())
	case "spaces":
		return told(nil, p.k.Spaces())
	case "signal":
		return done(p.k.Signal(p.n(1), p.n(2), p.n(3)))
	case "hold":
		return done(p.k.Hold(p.n(1), p.n(2), p.on(3)))
	case "how":
		return done(p.k.How(p.n(1), p.n(2), p.n(3)))
	case "take":
		return number(p.k.Take(p.n(1)))
	}
	return "", nil, false
}

func (p plain) ofMemory() (string, error, bool) {
	switch p.words[0] {
	case "map":
		return done(p.k.Map(p.n(1), p.n(2), p.n(3), p.on(4)))
	case "unmap":
		return done(p.k.Unmap(p.n(1), p.n(2), p.n(3)))
	case "protect":
		return done(p.k.Protect(p.n(1), p.n(2), p.n(3), p.on(4)))
	case "regions":
		all, err := p.k.Regions(p.n(1))
		s := fmt.Sprint(all)
		return told(err, strings.NewReplacer("{", "", "}", "", "true", "1", "false", "0").Replace(s))
	case "resident":
		return number(p.k.Resident(p.n(1)))
	case "left":
		return told(nil, p.k.Left())
	case "load":
		v, err := p.k.Load(p.n(1), p.n(2))
		return told(err, v)
	case "store":
		if p.n(3) != int(byte(p.n(3))) {
			return "", api.ErrBound, true
		}
		return done(p.k.Store(p.n(1), p.n(2), byte(p.n(3))))
	}
	return "", nil, false
}

func (p plain) ofGroups() (string, error, bool) {
	switch p.words[0] {
	case "add":
		return number(p.k.AddGroup(p.n(1), p.n(2)))
	case "drop":
		return done(p.k.DropGroup(p.n(1)))
	case "limit":
		return done(p.k.Limit(p.n(1), p.n(2), p.n(3)))
	case "group":
		g, err := p.k.Group(p.n(1))
		return told(err, g.Parent, g.MaxProcs, g.MaxPages, g.Procs, g.Pages)
	case "of":
		return number(p.k.Of(p.n(1)))
	case "join":
		return done(p.k.Join(p.n(1), p.n(2)))
	case "sleep", "wake":
		return done(p.k.Sleep(p.n(1), p.words[0] == "sleep"))
	case "freeze", "thaw":
		return done(p.k.Freeze(p.n(1), p.words[0] == "freeze"))
	case "quota":
		return done(p.k.Quota(p.n(1), p.n(2), p.n(3)))
	case "run":
		if p.n(1) < 0 || p.n(1) > 2000 {
			return "", api.ErrBound, true
		}
		var ran []int
		for range p.n(1) {
			ran = append(ran, p.k.Tick())
		}
		return told(nil, ran)
	case "ran":
		return number(p.k.Ran(p.n(1)))
	}
	return "", nil, false
}

func (p plain) ofFiles() (string, error, bool) {
	switch p.words[0] {
	case "open":
		return number(p.k.Open(p.n(1), p.words[4], p.on(2), p.on(3)))
	case "close":
		return done(p.k.Close(p.n(1), p.n(2)))
	case "dup":
		return number(p.k.Dup(p.n(1), p.n(2)))
	case "pipe":
		reading, writing, err := p.k.Pipe(p.n(1))
		return told(err, reading, writing)
	case "read":
		s, err := p.k.Read(p.n(1), p.n(2), p.n(3))
		if s == "" {
			return "-", err, true
		}
		return fmt.Sprintf("%x", s), err, true
	case "write":
		s, _ := hex.DecodeString(strings.Trim(p.words[3], "-"))
		return number(p.k.Write(p.n(1), p.n(2), string(s)))
	case "seek":
		return done(p.k.Seek(p.n(1), p.n(2), p.n(3)))
	case "what":
		kind, of, at, refs, err := p.k.What(p.n(1), p.n(2))
		return told(err, kind, of, at, refs)
	}
	return "", nil, false
}

func (p plain) ofPaths() (string, error, bool) {
	switch p.words[0] {
	case "mkdir":
		return done(p.k.MakeDir(p.n(1), p.words[2]))
	case "remove":
		return done(p.k.Remove(p.n(1), p.words[2]))
	case "move":
		return done(p.k.Move(p.n(1), p.words[2], p.words[3]))
	case "link":
		return done(p.k.Link(p.n(1), p.words[2], p.words[3]))
	case "names":
		names, err := p.k.Names(p.n(1), p.words[2])
		return told(err, names)
	case "node":
		x, err := p.k.Node(p.n(1), p.words[2])
		return told(err, x.Kind, x.Links, x.Held, x.Size)
	case "bind":
		return done(p.k.Bind(p.n(1), p.words[2], p.words[3]))
	case "unbind":
		return done(p.k.Unbind(p.n(1), p.words[2]))
	case "plant":
		return number(p.k.Plant())
	case "pivot":
		return done(p.k.Pivot(p.n(1), p.n(2)))
	case "counts":
		return told(nil, fmt.Sprint(p.k.Counts()))
	}
	return "", nil, false
}

// drawn word of a form.
func (d *dice) word(kind string) string {
	switch {
	case kind == "N" && d.one(60):
		return []string{"-1", "00", "-2", "01", "100000", "99999", "x", "2000", "255", "256", ""}[d.n(11)]
	case kind == "N" && d.one(3):
		return strconv.Itoa(d.n(30))
	case kind == "N":
		return strconv.Itoa(d.n(4))
	case kind == "X":
		return []string{"61", "626364", "-", "ff00", "6", "XY", "", "6A"}[d.n(8)]
	case d.one(40):
		return []string{"", "a", "/", "//", "-", "/A", "\xff"}[d.n(7)]
	}
	s := ""
	for range 1 + d.n(3) {
		s += "/" + []string{"a", "a", "b", "c", ".."}[d.n(5)]
	}
	return s
}

// line that is drawn, of one of the forms; now and then something is wrong with it.
func (d *dice) line() string {
	names, kinds, _ := strings.Cut(forms[d.n(len(forms))], " ")
	name := strings.Split(strings.Trim(names, "()?:"), "|")
	words := []string{name[d.n(len(name))]}
	for _, kind := range strings.Fields(kinds) {
		words = append(words, d.word(kind))
	}
	switch {
	case d.one(100):
		words = words[:len(words)-1]
	case d.one(100):
		words = append(words, d.word("N"))
	case d.one(200):
		words[0] = strings.ToUpper(words[0])
	}
	return strings.Join(words, " ")
}

// N1, N2: sessions of lines that are drawn are answered as by a kernel that is called.
func TestAgainstPlain(t *testing.T) {
	all, d := form(), dice(1)
	fine := map[string]int{}
	for session := range 1500 {
		var in []string
		if d.one(2) {
			in = append(in, begun...)
			in = append(in, "mkdir 0 /c", "bind 0 /a /c", "how 0 3 2", "how 1 5 2", "signal 0 2 5", "fork 0 0")
		}
		for range d.n(api.MaxLines + 1 - len(in)) {
			in = append(in, d.line())
		}
		p := plain{k: kernel.New()}
		for i, got := range run(t, in) {
			if want := p.answer(all, in[i]); got != want {
				t.Fatalf("session %d, line %d: %q => %s, want %s; %q", session, i, in[i], got, want, in[:i])
			}
			name, _, _ := strings.Cut(in[i], " ")
			if !strings.HasPrefix(got, "error") {
				fine[name]++
			}
		}
	}
	for _, line := range append(right, sorry...) {
		if name, _, _ := strings.Cut(line, " "); fine[name] == 0 {
			t.Errorf("no %s was answered without an error", name)
		}
	}
}
