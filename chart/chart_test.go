package chart

import (
	"math"
	"slices"
	"testing"

	"berthing/api"
	"berthing/bits"
	"berthing/cmd"
	"berthing/core"
	"berthing/health"
	"berthing/job"
	"berthing/prio"
)

const never = api.Never

var rules = health.Rules{Suspect: 1, Down: 2, Probation: 1}

// chart has partitions of 4 and 2 nodes, and the jobs 1 (2 nodes, for 10) and 2 (1 node, for 5), and 3 in the other partition.
func chart(t *testing.T) *Chart {
	t.Helper()
	c, bad := New([]int{4, 2}, rules, 1)
	if bad != api.OK || c.Job(1, 0, 2, 10) != api.OK || c.Job(2, 0, 1, 5) != api.OK || c.Job(3, 1, 1, 5) != api.OK {
		t.Fatal(bad)
	}
	return c
}

func begin(id, part, try int, at api.Time, nodes ...int) core.Event {
	return core.Event{Job: id, Part: part, Try: try, Nodes: bits.Of(nodes...), At: at}
}

func end(e core.Event, at api.Time, how int) core.Event {
	e.At, e.End, e.How = at, true, how
	return e
}

// step looks at what Step tells of some events.
func step(t *testing.T, c *Chart, now api.Time, want api.Errno, l ...core.Event) {
	t.Helper()
	if bad := c.Step(now, l); bad != want {
		t.Error(now, l, bad)
	}
}

func fall(c *Chart, part, node int) {
	c.Tell(part, node, health.Miss)
	c.Tell(part, node, health.Miss)
}

func TestNew(t *testing.T) { // P25.1
	for _, c := range []struct {
		nodes   []int
		r       health.Rules
		retries int
		bad     api.Errno
	}{
		{nil, rules, 0, api.ErrArg}, {[]int{1, 1, 1, 1, 1}, rules, 0, api.ErrArg}, {[]int{4, 0}, rules, 0, api.ErrArg}, {[]int{65}, rules, 0, api.ErrArg}, {[]int{math.MinInt}, rules, 0, api.ErrArg}, {[]int{4}, health.Rules{}, 0, api.ErrArg},
		{[]int{4}, rules, -1, api.ErrArg}, {[]int{64, 1, 1, 1}, rules, math.MaxInt, api.OK}, {[]int{1}, rules, 0, api.OK},
	} {
		if got, bad := New(c.nodes, c.r, c.retries); bad != c.bad || (got == nil) != (bad != api.OK) {
			t.Error(c, bad)
		}
	}
	c := chart(t)
	if c.Now() != 0 || len(c.Rows()) != 0 || len(c.Open()) != 0 || c.Up(0) != bits.First(4) || c.Up(1) != bits.First(2) || c.Up(2) != 0 || c.Up(-1) != 0 {
		t.Error("New")
	}
	for _, c := range []*Chart{nil, {}} {
		if c.Job(0, 0, 0, 0) != api.ErrNil || c.Tell(9, 9, 9) != api.ErrNil || c.Took(9, 0) != api.ErrNil || c.Step(-1, nil) != api.ErrNil || len(c.Rows()) != 0 || len(c.Open()) != 0 || c.Up(0) != 0 || c.Now() != 0 {
			t.Error("of none")
		}
	}
}

func TestJobTellTook(t *testing.T) { // P25.2
	c := chart(t)
	for _, a := range []struct {
		id, part, width int
		limit           api.Time
		bad             api.Errno
	}{
		{0, 0, 1, 1, api.ErrArg}, {9, 2, 1, 1, api.ErrArg}, {9, -1, 1, 1, api.ErrArg}, {9, 0, 0, 1, api.ErrArg}, {9, 0, 5, 1, api.ErrArg}, {9, 1, 3, 1, api.ErrArg}, {9, 0, 1, 0, api.ErrArg}, {1, 0, 5, 1, api.ErrArg}, {math.MinInt, math.MaxInt, 1, math.MinInt64, api.ErrArg},
		{1, 1, 2, 10, api.ErrState}, {1, 0, 1, 10, api.ErrState}, {1, 0, 2, 3, api.OK}, {math.MaxInt, 1, 2, math.MaxInt64, api.OK},
	} {
		if bad := c.Job(a.id, a.part, a.width, a.limit); bad != a.bad {
			t.Error(a, bad)
		}
	}
	for _, a := range [][2]int{{2, 0}, {-1, 0}, {0, 4}, {1, 2}, {0, -1}, {math.MaxInt, math.MinInt}} {
		if c.Tell(a[0], a[1], health.Beat) != api.ErrNone {
			t.Error(a)
		}
	}
	if c.Tell(0, 1, 99) != api.OK || c.Up(0) != bits.First(4) || c.Tell(0, 1, health.Miss) != api.OK || c.Up(0) != bits.Of(0, 2, 3) || c.Tell(0, 1, health.Beat) != api.OK || c.Up(0) != bits.First(4) {
		t.Error("Tell")
	}
	if c.Took(2, 0) != api.ErrNone || c.Took(0, bits.Of(1, 4)) != api.ErrNone || c.Up(0) != bits.First(4) || c.Took(1, bits.Of(1)) != api.OK || c.Up(1) != bits.Of(0) || c.Took(0, 0) != api.OK {
		t.Error("Took")
	}
	step(t, c, 0, api.ErrState, begin(3, 1, 1, 0, 1))
}

func TestTimes(t *testing.T) { // P25.3
	c := chart(t)
	step(t, c, 5, api.OK)
	for _, now := range []api.Time{4, -1, never, never + 1, math.MinInt64, math.MaxInt64} {
		if c.Step(now, []core.Event{begin(1, 0, 1, 5, 0, 1)}) != api.ErrLate || c.Now() != 5 || len(c.Rows()) != 0 {
			t.Error(now)
		}
	}
	step(t, c, 8, api.ErrState, begin(2, 0, 1, 4, 0))
	c = chart(t)
	step(t, c, 8, api.ErrState, begin(2, 0, 1, 9, 0))
	if c.Now() != 8 {
		t.Error("the time is now all the same")
	}
	c = chart(t)
	step(t, c, 9, api.ErrState, begin(1, 0, 1, 6, 0, 1), begin(2, 0, 1, 5, 2))
	if len(c.Rows()) != 1 || c.Now() != 9 {
		t.Error("the events ahead stay")
	}
	step(t, c, 9, api.OK, begin(2, 0, 1, 9, 2))
	c = chart(t)
	step(t, c, 15, api.OK, begin(1, 0, 1, 6, 0, 1))
	step(t, c, 16, api.ErrState)
	c = chart(t)
	step(t, c, never-1, api.ErrState, begin(1, 0, 1, 6, 0, 1))
	if len(c.Open()) != 1 {
		t.Error("what should have ended")
	}
}

func TestBeginnings(t *testing.T) { // P25.3
	for name, e := range map[string]core.Event{
		"not known": begin(9, 0, 1, 0, 0), "another partition": begin(3, 0, 1, 0, 0), "no partition": begin(1, 7, 1, 0, 0, 1), "try 0": begin(1, 0, 0, 0, 0, 1), "try 2": begin(1, 0, 2, 0, 0, 1), "few nodes": begin(1, 0, 1, 0, 0), "many": begin(1, 0, 1, 0, 0, 1, 2),
		"no node of it": begin(1, 0, 1, 0, 0, 4), "down": begin(2, 0, 1, 0, 3), "suspect": begin(2, 0, 1, 0, 2),
	} {
		c := chart(t)
		fall(c, 0, 3)
		c.Tell(0, 2, health.Miss)
		if c.Step(0, []core.Event{e, begin(1, 0, 1, 0, 0, 1)}) != api.ErrState || len(c.Rows()) != 0 {
			t.Error(name)
		}
		step(t, c, 0, api.OK, begin(1, 0, 1, 0, 0, 1))
	}
	c := chart(t)
	first := begin(1, 0, 1, 2, 0, 1)
	step(t, c, 3, api.OK, first, begin(2, 0, 1, 3, 2), begin(3, 1, 1, 3, 0))
	step(t, c, 4, api.ErrState, begin(1, 0, 2, 4, 2, 3))
	c.Job(4, 0, 2, 9)
	step(t, c, 4, api.ErrState, begin(4, 0, 1, 4, 1, 3))
	want := []Row{{Job: 1, Try: 1, Nodes: bits.Of(0, 1), From: 2, Open: true}, {Job: 2, Try: 1, Nodes: bits.Of(2), From: 3, Open: true}, {Job: 3, Part: 1, Try: 1, Nodes: bits.Of(0), From: 3, Open: true}}
	if !slices.Equal(c.Rows(), want) || !slices.Equal(c.Open(), want) {
		t.Error(c.Rows())
	}
	c.Rows()[0].Job = 7
	if !slices.Equal(c.Rows(), want) {
		t.Error("memory is shared")
	}
}

func TestEnds(t *testing.T) { // P25.3
	b := begin(1, 0, 1, 5, 0, 1)
	other, try := b, b
	other.Nodes, try.Try = bits.Of(0, 2), 2
	for name, a := range map[string]struct {
		e   core.Event
		bad api.Errno
	}{
		"done": {end(b, 7, job.Done), api.OK}, "failed": {end(b, 7, job.Failed), api.OK}, "cancelled": {end(b, 15, job.Cancelled), api.OK}, "at once": {end(b, 5, job.Done), api.OK}, "expired": {end(b, 15, job.Expired), api.OK},
		"expired early": {end(b, 14, job.Expired), api.ErrState}, "behind the limit": {end(b, 16, job.Done), api.ErrState}, "lost of none": {end(b, 7, core.Lost), api.ErrState}, "how 1": {end(b, 7, 1), api.ErrState}, "how 7": {end(b, 7, 7), api.ErrState}, "how 0": {end(b, 7, 0), api.ErrState}, "how below": {end(b, 7, math.MinInt), api.ErrState},
		"other nodes": {end(other, 7, job.Done), api.ErrState}, "another try": {end(try, 7, job.Done), api.ErrState}, "not open": {end(begin(2, 0, 1, 5, 2), 7, job.Done), api.ErrState}, "not known": {end(begin(9, 0, 1, 5, 2), 7, job.Done), api.ErrState},
	} {
		c := chart(t)
		step(t, c, 5, api.OK, b)
		if bad := c.Step(max(a.e.At, 7), []core.Event{a.e}); bad != a.bad {
			t.Error(name, bad)
		}
		want := Row{Job: 1, Try: 1, Nodes: bits.Of(0, 1), From: 5, To: a.e.At, How: a.e.How}
		if a.bad == api.OK && (len(c.Open()) != 0 || c.Rows()[0] != want) || a.bad != api.OK && len(c.Open()) != 1 {
			t.Error(name, c.Rows())
		}
	}
	c := chart(t)
	step(t, c, 5, api.OK, b)
	c.Job(1, 0, 2, 3)
	step(t, c, 8, api.OK, end(b, 8, job.Expired))
	step(t, c, 8, api.ErrState, end(b, 8, job.Expired))
	c = chart(t)
	c.Job(1, 0, 2, math.MaxInt64)
	step(t, c, 5, api.OK, b)
	step(t, c, never-1, api.OK)
	step(t, c, never-1, api.ErrState, end(b, never-1, job.Expired))
}

func TestLost(t *testing.T) { // P25.3
	c := chart(t)
	b := begin(1, 0, 1, 0, 0, 1)
	step(t, c, 0, api.OK, b)
	fall(c, 0, 1)
	fall(c, 0, 3)
	step(t, c, 2, api.OK, end(b, 2, core.Lost), begin(1, 0, 2, 2, 0, 2))
	c.Tell(0, 1, health.Mend)
	c.Tell(0, 1, health.Beat)
	step(t, c, 3, api.OK, end(begin(1, 0, 2, 2, 0, 2), 3, job.Done))
	if c.jobs[1].barred != bits.Of(1) {
		t.Error("barred", c.jobs[1].barred)
	}
	step(t, c, 3, api.ErrState, begin(1, 0, 3, 3, 0, 2))

	c, _ = New([]int{4, 2}, rules, 5)
	c.Job(1, 0, 2, 10)
	step(t, c, 0, api.OK, b)
	c.Tell(0, 1, health.Beat)
	step(t, c, 0, api.ErrState, end(b, 0, core.Lost)) // it was told something, and is not down
	fall(c, 0, 1)
	step(t, c, 1, api.ErrState) // it goes on, on a node that is down
	step(t, c, 2, api.ErrState, end(b, 2, core.Lost))
	c.Tell(0, 1, health.Mend)
	c.Tell(0, 1, health.Miss)
	step(t, c, 2, api.OK, end(b, 2, core.Lost))
	c.Tell(0, 1, health.Mend)
	c.Tell(0, 1, health.Beat)
	step(t, c, 2, api.ErrState, begin(1, 0, 2, 2, 0, 1))
	step(t, c, 2, api.OK, begin(1, 0, 2, 2, 2, 3))
	fall(c, 0, 2)
	c.Tell(0, 2, health.Mend)
	step(t, c, 3, api.OK, end(begin(1, 0, 2, 2, 2, 3), 3, core.Lost)) // it was down since the last step
	fall(c, 1, 0)
	step(t, c, 4, api.OK, begin(1, 0, 3, 4, 0, 3))
	c.Tell(1, 1, health.Miss)
	step(t, c, 5, api.ErrState, end(begin(1, 0, 3, 4, 0, 3), 5, core.Lost)) // what fell is another partition's
}

func TestRetries(t *testing.T) { // P25.3
	c, _ := New([]int{4}, rules, 1)
	c.Job(1, 0, 1, 10)
	for try := 1; try < 4; try++ {
		want := api.OK
		if try == 3 {
			want = api.ErrState
		}
		step(t, c, api.Time(try), want, begin(1, 0, try, api.Time(try), 0))
		step(t, c, api.Time(try), want, end(begin(1, 0, try, api.Time(try), 0), api.Time(try), job.Cancelled))
	}
}

func TestNoNodeTwice(t *testing.T) { // P25.5, and W1 of a state's events
	rules := health.Rules{Suspect: 1, Down: 2, Probation: 1}
	s, bad := core.New(core.Conf{Parts: []core.Part{{Nodes: 6, Spares: 2}, {Nodes: 3, Spares: 0}}, Rules: rules, Retries: 2, Half: 50, Weights: prio.Weights{Age: 1}})
	c, bad2 := New([]int{6, 3}, rules, 2)
	if bad != api.OK || bad2 != api.OK {
		t.Fatal(bad, bad2)
	}
	k := uint32(3)
	next := func(n int) int { k = k*1664525 + 1013904223; return int(k>>8) % n }
	for range 4000 {
		m := cmd.Command{Kind: cmd.Tick, Time: s.Now() + api.Time(next(4))}
		switch next(4) {
		case 0:
			m = cmd.Command{Kind: cmd.Submit, User: 1, Part: next(2), Width: 1 + next(4), Time: api.Time(1 + next(20))}
		case 1, 2:
			m = cmd.Command{Kind: cmd.Tell, Part: next(2), Node: next(6), What: []int{health.Beat, health.Beat, health.Miss, health.Mend}[next(4)]}
		}
		r, events := s.Do(m)
		if m.Kind == cmd.Submit && r.Code == api.OK && c.Job(r.Id, m.Part, m.Width, m.Time) != api.OK {
			t.Fatal("Job", m)
		}
		if m.Kind == cmd.Tell && r.Code == api.OK {
			c.Tell(m.Part, m.Node, m.What)
		}
		if bad := c.Step(s.Now(), events); bad != api.OK {
			t.Fatal(bad, events)
		}
		if c.Up(0) != s.Fleet(0).Up() {
			t.Fatal("Up")
		}
	}
	rows := c.Rows()
	for i, a := range rows {
		for _, b := range rows[:i] {
			apart := !b.Open && b.To <= a.From || !a.Open && a.To <= b.From
			if !apart && a.Part == b.Part && a.Nodes.And(b.Nodes) != 0 {
				t.Fatal(a, b)
			}
		}
	}
	if len(rows) < 100 {
		t.Error("too few rows to tell", len(rows))
	}
}
