package audit

import (
	"math"
	"slices"
	"testing"

	"berthing/api"
	"berthing/bits"
	"berthing/cmd"
	"berthing/core"
	"berthing/health"
	"berthing/job"
	"berthing/prio"
	"berthing/roll"
)

func conf() core.Conf {
	return core.Conf{Parts: []core.Part{{Nodes: 5, Spares: 1}, {Nodes: 3, Spares: 0}}, Rules: health.Rules{Suspect: 1, Down: 2, Probation: 1}, Retries: 2, Half: 100, Weights: prio.Weights{Age: 1}}
}

func state(t *testing.T) *core.State {
	t.Helper()
	s, bad := core.New(conf())
	if bad != api.OK {
		t.Fatal(bad)
	}
	return s
}

func runs(id int, nodes ...int) job.Job {
	return job.Job{Id: id, Width: len(nodes), Limit: 10, State: job.Running, Tries: 1, Nodes: bits.Of(nodes...), Start: 3}
}

// view is of five nodes, of which 3 is down, and 4 is suspect.
func view(l ...job.Job) View {
	return View{Now: 5, Nodes: []health.Node{{}, {}, {}, {State: health.Down}, {State: health.Suspect, Misses: 1}}, Jobs: l, Retries: 1}
}

func with(j job.Job, change func(*job.Job)) job.Job {
	change(&j)
	return j
}

func TestOf(t *testing.T) { // P29.1
	s := state(t)
	s.Do(cmd.Command{Kind: cmd.Submit, User: 1, Width: 2, Time: 9})
	s.Do(cmd.Command{Kind: cmd.Submit, User: 1, Part: 1, Width: 3, Time: 9})
	s.Do(cmd.Command{Kind: cmd.Drain, Width: 1})
	s.Do(cmd.Command{Kind: cmd.Tell, Node: 4, What: health.Miss})
	s.Do(cmd.Command{Kind: cmd.Tick, Time: 4})
	v, ok := Of(s, 0)
	r, rolls := s.Roll(0)
	if !ok || v.Now != 4 || v.Part != 0 || len(v.Nodes) != 5 || v.Nodes[4].State != health.Suspect || v.Nodes[2].State != health.Drain || !slices.Equal(v.Jobs, s.Jobs().All()) || !rolls || !v.Rolls || v.Roll != r || v.Retries != 2 {
		t.Error(v)
	}
	if v, ok := Of(s, 1); !ok || v.Part != 1 || v.Rolls || len(v.Nodes) != 3 || len(v.Jobs) != 2 {
		t.Error(v)
	}
	for _, part := range []int{-1, 2, math.MinInt, math.MaxInt} {
		if v, ok := Of(s, part); ok || len(v.Nodes) != 0 || len(v.Jobs) != 0 || v.Retries != 0 {
			t.Error(part)
		}
	}
	for _, s := range []*core.State{nil, {}} {
		if _, ok := Of(s, 0); ok || len(All(s)) != 0 {
			t.Error("of none")
		}
	}
	if len(All(s)) != 0 {
		t.Error(All(s))
	}
}

func TestAll(t *testing.T) { // P29.1
	s := state(t)
	for _, part := range []int{0, 1} {
		s.Do(cmd.Command{Kind: cmd.Submit, User: 1, Part: part, Width: 3, Time: 9})
	}
	for _, id := range []int{2, 1} {
		j, _ := s.Jobs().Get(id)
		j.Start = 5
		s.Jobs().Set(j)
	}
	if l := All(s); !slices.Equal(l, []Fault{{Early, 1, -1}, {Early, 2, -1}}) {
		t.Error(l)
	}
}

func TestCheck(t *testing.T) { // P29.2
	for name, c := range map[string]struct {
		v    View
		want []Fault
	}{
		"fine":   {view(runs(1, 0, 1), runs(2, 2, 4)), nil},
		"none":   {View{}, nil},
		"width":  {view(with(runs(1, 0, 1), func(j *job.Job) { j.Width = 3 })), []Fault{{Width, 1, -1}}},
		"twice":  {view(runs(1, 0, 1), runs(2, 1, 2), runs(3, 1, 0)), []Fault{{Twice, 2, 1}, {Twice, 3, 0}, {Twice, 3, 1}}},
		"barred": {view(with(runs(1, 0, 1), func(j *job.Job) { j.Black = bits.Of(1, 2) })), []Fault{{Barred, 1, 1}}},
		"fallen": {view(runs(1, 3, 4)), []Fault{{Fallen, 1, 3}}},
		"stray":  {view(runs(1, 2, 5, 63)), []Fault{{Stray, 1, 5}, {Stray, 1, 63}}},
		"late":   {view(with(runs(1, 0), func(j *job.Job) { j.Limit = 2 }), with(runs(2, 1), func(j *job.Job) { j.Limit = 3 })), []Fault{{Late, 1, -1}}},
		"tries":  {view(with(runs(1, 0), func(j *job.Job) { j.Tries = 3 }), with(runs(2, 1), func(j *job.Job) { j.Tries = 2 })), []Fault{{Tries, 1, -1}}},
		"early":  {view(with(runs(1, 0), func(j *job.Job) { j.Start = 6 }), with(runs(2, 1), func(j *job.Job) { j.Start = 5 })), []Fault{{Early, 1, -1}}},
		"missed": {view(job.Job{Id: 1, Plan: 4}, job.Job{Id: 2, Plan: 5}, job.Job{Id: 3, Plan: -1}), []Fault{{Missed, 1, -1}, {Missed, 3, -1}}},
		"all of one": {view(runs(7, 5, 3), with(runs(2, 3, 5), func(j *job.Job) {
			j.Width, j.Black, j.Start, j.Tries, j.Limit = 1, bits.Of(3, 5), 6, 9, -9
		})), []Fault{{Fallen, 7, 3}, {Stray, 7, 5}, {Width, 2, -1}, {Barred, 2, 3}, {Fallen, 2, 3}, {Twice, 2, 3}, {Stray, 2, 5}, {Barred, 2, 5}, {Twice, 2, 5}, {Tries, 2, -1}, {Early, 2, -1}}},
		"others": {view(with(runs(1, 3), func(j *job.Job) { j.Part = 1 }), with(runs(2, 3), func(j *job.Job) { j.State = job.Done }), job.Job{Id: 3, Part: 1, Plan: 1}, job.Job{Id: 4, State: 9, Plan: 1}, runs(5, 0)), nil},
	} {
		if got := Check(c.v); !slices.Equal(got, c.want) {
			t.Error(name, got)
		}
	}
	v := view(with(runs(1, 0), func(j *job.Job) { j.Tries = math.MaxInt }))
	v.Retries = math.MaxInt
	if len(Check(v)) != 0 {
		t.Error("retries")
	}
	v.Retries = math.MinInt
	if !slices.Equal(Check(v), []Fault{{Tries, 1, -1}}) {
		t.Error("retries")
	}
	v = View{Nodes: make([]health.Node, 70), Jobs: []job.Job{runs(1, 63)}, Now: 5}
	if len(Check(v)) != 0 {
		t.Error("the first 64")
	}
}

func TestCheckDrain(t *testing.T) { // P29.2
	v := view(runs(1, 0), job.Job{Id: 2, Plan: 1})
	v.Nodes[1].State, v.Nodes[2].State = health.Drain, health.Repair
	v.Roll, v.Rolls = roll.Roll{Width: 3, Held: bits.Of(1, 2, 3)}, true
	if got := Check(v); !slices.Equal(got, []Fault{{Missed, 2, -1}}) {
		t.Error(got)
	}
	v.Roll.Held = bits.Of(0, 1, 4, 5)
	if got := Check(v); !slices.Equal(got, []Fault{{Missed, 2, -1}, {Held, 0, -1}, {Held, 0, 0}, {Held, 0, 4}, {Held, 0, 5}}) {
		t.Error(got)
	}
	v.Jobs = append(v.Jobs, runs(3, 1))
	v.Roll.Held = bits.Of(1)
	if got := Check(v); !slices.Equal(got, []Fault{{Missed, 2, -1}, {Held, 0, 1}}) {
		t.Error(got)
	}
	v.Rolls = false
	if got := Check(v); !slices.Equal(got, []Fault{{Missed, 2, -1}}) {
		t.Error(got)
	}
}

func TestOutsideBusyText(t *testing.T) { // P29.3
	v := view(runs(1, 0, 3), with(runs(2, 1), func(j *job.Job) { j.Part = 1 }), with(runs(3, 2), func(j *job.Job) { j.State = job.Failed }), runs(4, 9))
	if Outside(v) != 2 || Busy(v) != bits.Of(0, 3, 9) {
		t.Error(Outside(v), Busy(v))
	}
	v.Roll.Held = bits.Of(4, 0)
	if Outside(v) != 2 {
		t.Error("a drain that it has not")
	}
	v.Rolls = true
	if Outside(v) != 1 || Outside(View{}) != 0 || Outside(View{Nodes: slices.Repeat([]health.Node{{State: 9}}, 70)}) != 64 {
		t.Error("Outside")
	}
	for i, want := range []string{"", "width", "twice", "barred", "fallen", "late", "tries", "missed", "held", "early", "stray", ""} {
		if Text(i) != want {
			t.Error(i, Text(i))
		}
	}
	if Text(-1) != "" || Text(math.MinInt) != "" || Text(math.MaxInt) != "" {
		t.Error("Text")
	}
}

func TestCommandsAreFine(t *testing.T) { // P29.4
	s := state(t)
	k := uint32(17)
	next := func(n int) int { k = k*1664525 + 1013904223; return int(k>>8) % n }
	for range 6000 {
		m := cmd.Command{Kind: 1 + next(12), Id: 1 + next(s.Jobs().Next()), User: 1 + next(4), Part: next(2), Width: 1 + next(4), Node: next(5), What: []int{0, 0, 0, 1, 2, 4}[next(6)], Time: api.Time(1 + next(20)), Many: api.Time(1 + next(20))}
		if m.Kind == cmd.Tick || m.Kind == cmd.Reserve {
			m.Time = s.Now() + api.Time(next(9))
		}
		s.Do(m)
		if l := All(s); len(l) != 0 {
			t.Fatal(m, l)
		}
	}
}
