package kernel_test

import (
	"fmt"
	"testing"

	"wardroom/api"
	"wardroom/kernel"
)

// M7: groups that are added, one below the other, and Groups of them.
func TestAddGroup(t *testing.T) {
	k := play(t, `
		add 0 1 => 1
		add 1 1000 => 2
		add 2 100 => 3
		group 3 => 2 -1 -1 0 0
		group 1 => 0 -1 -1 0 0
	`)
	wantRefused(t, k, "add 3 100", api.ErrDeep)
	wantRefused(t, k, "add 4 100", api.ErrNone)
	for _, n := range append(strange, api.Groups) {
		wantRefused(t, k, fmt.Sprintf("add %d 100", n), api.ErrBound)
	}
	for _, weight := range append(strange, 0, api.MaxWeight+1) {
		if weight == 1000 {
			continue
		}
		for _, parent := range []int{0, 3, 4, -1} {
			wantRefused(t, k, fmt.Sprintf("add %d %d", parent, weight), api.ErrBound)
		}
	}
	for n := 4; n < api.Groups; n++ {
		goOn(t, k, fmt.Sprintf("add 2 5 => %d", n))
	}
	wantRefused(t, k, "add 0 100", api.ErrFull)
	wantRefused(t, k, "add 3 100", api.ErrDeep)
	goOn(t, k, "drop 5 => ok\nadd 0 100 => 5\ngroup 5 => 0 -1 -1 0 0")
}

// M7: a group is a unit of its parent, of its weight.
func TestGroupRuns(t *testing.T) {
	play(t, `
		add 0 300 => 1
		add 1 200 => 2
		fork 0 0 => 2
		fork 0 0 => 3
		fork 0 0 => 4
		join 1 1 => ok
		join 2 2 => ok
		run 16 => 2 0 3 1 2 2 0 3 1 2 2 0 3 1 2 2
	`)
}

// M7: a group that has nothing may be dropped; one that takes its number is new.
func TestDropGroup(t *testing.T) {
	k := play(t, "add 0 1 => 1\nadd 1 1 => 2")
	for _, n := range append(strange, api.Groups) {
		wantRefused(t, k, fmt.Sprintf("drop %d", n), api.ErrBound)
	}
	wantRefused(t, k, "drop 3", api.ErrNone)
	wantRefused(t, k, "drop 0", api.ErrBusy)
	wantRefused(t, k, "drop 1", api.ErrBusy)
	goOn(t, k, "fork 0 0 => 2\njoin 1 2 => ok")
	wantRefused(t, k, "drop 2", api.ErrBusy)
	goOn(t, k, "exit 1 0 => ok")
	wantRefused(t, k, "drop 2", api.ErrBusy)
	goOn(t, k, "wait 0 => 2 0\ndrop 2 => ok")
	wantRefused(t, k, "drop 2", api.ErrNone)
	goOn(t, k, `
		limit 1 3 3 => ok
		freeze 1 => ok
		drop 1 => ok
		freeze 1 => error 2
		quota 1 1 1 => error 2
		add 0 100 => 1
		group 1 => 0 -1 -1 0 0
		fork 0 0 => 2
		join 1 1 => ok
		run 4 => 1 0 1 0
	`)
}

// M7: limits are the tree's.
func TestLimit(t *testing.T) {
	k := play(t, `
		add 0 100 => 1
		limit 1 0 64 => ok
		group 1 => 0 0 64 0 0
		limit 1 20 0 => ok
		group 1 => 0 20 0 0 0
		limit 0 0 0 => ok
		group 0 => -1 0 0 1 0
		limit 0 -1 -1 => ok
		group 0 => -1 -1 -1 1 0
	`)
	for _, n := range append(strange, api.Groups) {
		wantRefused(t, k, fmt.Sprintf("limit %d 1 1", n), api.ErrBound)
		wantRefused(t, k, fmt.Sprintf("group %d", n), api.ErrBound)
	}
	for _, n := range strange[1:] { // -1 is no limit
		wantRefused(t, k, fmt.Sprintf("limit 1 %d 1", n), api.ErrBound)
		wantRefused(t, k, fmt.Sprintf("limit 1 1 %d", n), api.ErrBound)
	}
	wantRefused(t, k, "limit 1 21 1", api.ErrBound)
	wantRefused(t, k, "limit 1 1 65", api.ErrBound)
	wantRefused(t, k, "limit 2 1 1", api.ErrNone)
	wantRefused(t, k, "group 2", api.ErrNone)
}

// M7, W2: who joins a group is charged to it, with its pages in frames.
func TestJoin(t *testing.T) {
	k := play(t, `
		add 0 100 => 1
		add 1 100 => 2
		add 0 100 => 3
		fork 0 0 => 2
		map 1 0 4 1 => ok
		load 1 0 => 0
		load 1 8 => 0
		of 1 => 0
		join 1 2 => ok
		of 1 => 2
		group 2 => 1 -1 -1 1 2
		group 1 => 0 -1 -1 1 2
		group 0 => -1 -1 -1 2 2
		limit 1 1 2 => ok
		join 1 1 => ok
		group 2 => 1 -1 -1 0 0
		group 1 => 0 1 2 1 2
		join 1 1 => ok
		limit 3 -1 1 => ok
	`)
	wantRefused(t, k, "join 1 3", api.ErrLimit)
	goOn(t, k, "limit 3 0 -1 => ok")
	wantRefused(t, k, "join 1 3", api.ErrLimit)
	goOn(t, k, "limit 1 0 -1 => ok")
	wantRefused(t, k, "join 1 1", api.ErrLimit)
	wantRefused(t, k, "join 1 2", api.ErrLimit)
	wantRefused(t, k, "join 1 4", api.ErrNone)
	for _, n := range append(strange, api.Groups) {
		wantRefused(t, k, fmt.Sprintf("join 1 %d", n), api.ErrBound)
	}
	goOn(t, k, `
		join 1 0 => ok
		group 1 => 0 0 -1 0 0
		group 0 => -1 -1 -1 2 2
		limit 3 1 2 => ok
		join 1 3 => ok
		fork 1 0 => error 6
		group 3 => 0 1 2 1 2
	`)
}

// M7: the task goes along; it sleeps, or is awake, as it did, and has run as often.
func TestJoinMovesTheTask(t *testing.T) {
	play(t, `
		add 0 100 => 1
		freeze 1 => ok
		fork 0 0 => 2
		run 3 => 0 1 0
		join 1 1 => ok
		run 2 => 0 0
		ran 1 => 1
		thaw 1 => ok
		sleep 1 => ok
		run 2 => 0 0
		join 1 0 => ok
		run 2 => 0 0
		wake 1 => ok
		ran 1 => 1
		run 2 => 1 0
		ran 1 => 2
	`)
}

// M7: who joins its own group is in it as if it were new.
func TestJoinTheSame(t *testing.T) {
	play(t, `
		fork 0 0 => 2
		run 4 => 0 1 0 1
		sleep 1 => ok
		run 4 => 0 0 0 0
		wake 1 => ok
		run 1 => 1
		join 1 0 => ok
		run 2 => 1 0
	`)
}

// M7: who sleeps doesn't run; if nobody may, nobody does.
func TestSleep(t *testing.T) {
	play(t, `
		fork 0 0 => 2
		sleep 0 => ok
		sleep 0 => ok
		run 3 => 1 1 1
		sleep 1 => ok
		run 2 => -1 -1
		wake 0 => ok
		wake 0 => ok
		run 2 => 0 0
		ran 0 => 2
		ran 1 => 3
	`)
}

// M7, W4: a frozen group, and one whose quota is used, don't run; wrong ones are told.
func TestFreezeAndQuota(t *testing.T) {
	k := play(t, `
		add 0 100 => 1
		fork 0 0 => 2
		join 1 1 => ok
		sleep 0 => ok
		run 2 => 1 1
		freeze 1 => ok
		run 2 => -1 -1
		thaw 1 => ok
		quota 1 2 4 => ok
		run 8 => 1 1 -1 -1 1 1 -1 -1
		quota 1 0 1 => ok
		run 3 => 1 1 1
	`)
	for _, act := range []string{"freeze %d", "thaw %d", "quota %d 1 2"} {
		for _, n := range append(strange, api.Groups) {
			wantRefused(t, k, fmt.Sprintf(act, n), api.ErrBound)
		}
		wantRefused(t, k, fmt.Sprintf(act, 2), api.ErrNone)
		wantRefused(t, k, fmt.Sprintf(act, 0), api.ErrState)
	}
	for _, wrong := range []string{"-1 5", "3 2", "1 0", "0 0", "1 101", "0 -1"} {
		wantRefused(t, k, "quota 1 "+wrong, api.ErrBound)
	}
	wantRefused(t, k, "quota 0 3 2", api.ErrState)
	goOn(t, k, "quota 1 100 100 => ok")
}

// M3, M7: who ended is no task; a new process of its number never ran.
func TestTasksOfTheGone(t *testing.T) {
	play(t, `
		fork 0 0 => 2
		run 4 => 0 1 0 1
		exit 1 0 => ok
		run 2 => 0 0
		wait 0 => 2 0
		fork 0 0 => 2
		ran 1 => 0
		run 4 => 1 0 1 0
	`)
}

// W3: of tasks of one group, awake all the time, each runs as often as the other, but for one time.
func TestShareOfTasks(t *testing.T) {
	d := dice(31)
	for range 20 {
		k := kernel.New()
		goOn(t, k, "add 0 100 => 1\nadd 0 250 => 2")
		for n := 1; n < api.Procs; n++ {
			goOn(t, k, fmt.Sprintf("fork 0 0 => %d\njoin %d %d => ok", n+1, n, 1+d.n(2)))
		}
		for range d.n(200) {
			k.Tick()
		}
		evenly(t, k)
	}
}

func evenly(t *testing.T, k *kernel.Kernel) {
	t.Helper()
	most, least := map[int]int{}, map[int]int{}
	for n := range api.Procs {
		g, _ := k.Of(n)
		ran, err := k.Ran(n)
		if err != nil {
			t.Fatal(err)
		}
		if _, is := least[g]; !is {
			least[g], most[g] = ran, ran
		}
		least[g], most[g] = min(least[g], ran), max(most[g], ran)
	}
	for g := range most {
		if most[g]-least[g] > 1 {
			t.Errorf("in group %d one ran %d times, another one %d", g, most[g], least[g])
		}
	}
}

// W3: groups run by their weights, but for one step of each.
func TestShareOfGroups(t *testing.T) {
	d := dice(32)
	for range 20 {
		k := kernel.New()
		weights := []int{1 + d.n(api.MaxWeight), 1 + d.n(api.MaxWeight)}
		goOn(t, k, fmt.Sprintf("add 0 %d => 1\nadd 0 %d => 2\nfork 0 0 => 2\nfork 0 0 => 3", weights[0], weights[1]))
		goOn(t, k, "join 1 1 => ok\njoin 2 2 => ok\nsleep 0 => ok")
		for range 1 + d.n(400) {
			k.Tick()
		}
		var times, steps [2]int
		for i, weight := range weights {
			ran, _ := k.Ran(1 + i)
			steps[i] = api.One / weight
			times[i] = ran * steps[i]
		}
		if apart := times[0] - times[1]; apart > steps[0] || -apart > steps[1] {
			t.Errorf("of the weights %v: %v", weights, times)
		}
	}
}
