package fore

import (
	"bytes"
	"math"
	"slices"
	"testing"

	"berthing/api"
	"berthing/bits"
	"berthing/cmd"
	"berthing/core"
	"berthing/health"
	"berthing/job"
	"berthing/parse"
	"berthing/prio"
	"berthing/tick"
)

const never = api.Never

func state(t *testing.T, lines ...string) *core.State {
	t.Helper()
	s, bad := core.New(core.Conf{Parts: []core.Part{{Nodes: 4, Spares: 1}, {Nodes: 2, Spares: 0}}, Rules: health.Rules{Suspect: 1, Down: 2, Probation: 1}, Retries: 1, Half: 100, Weights: prio.Weights{Age: 1}})
	if bad != api.OK {
		t.Fatal(bad)
	}
	for _, line := range lines {
		l, bad := parse.Parse(line)
		if bad != api.OK {
			t.Fatal(line, bad)
		}
		if r, _ := s.Do(l.Command); r.Code != api.OK {
			t.Fatal(line, r)
		}
	}
	return s
}

// some has jobs that run up to 10 and 12, and more, one of the other partition.
func some(t *testing.T) *core.State {
	return state(t, "submit user=1 width=2 limit=10", "submit user=1 width=2 limit=12 part=1", "submit user=2 width=3 limit=5", "submit user=1 width=1 limit=4 part=1", "submit user=1 width=1 limit=3", "submit user=1 width=1 limit=2 after=1", "submit user=1 width=1 limit=2 hold", "tick to=2")
}

func TestStartsAndWhen(t *testing.T) { // P31.1
	s := some(t)
	was := s.Put()
	want := []Start{{Job: 3, At: 10, Nodes: bits.Of(0, 1, 2)}, {Job: 4, Part: 1, At: 12, Nodes: bits.Of(0)}}
	for until, many := range map[api.Time]int{2: 0, 9: 0, 10: 1, 11: 1, 12: 2, 500: 2, never - 1: 2, 1: 0, -1: 0, never: 0, never + 5: 0, math.MaxInt64: 0, math.MinInt64: 0} {
		if got := Starts(s, until); !slices.Equal(got, want[:many]) {
			t.Error(until, got)
		}
	}
	for _, c := range []struct {
		id    int
		until api.Time
		at    api.Time
		ok    bool
	}{{3, 10, 10, true}, {3, 9, 0, false}, {4, 99, 12, true}, {1, 99, 0, false}, {6, 99, 0, false}, {7, 99, 0, false}, {0, 99, 0, false}, {-1, 99, 0, false}, {math.MaxInt, 99, 0, false}, {3, never, 0, false}, {3, 1, 0, false}} {
		if at, ok := When(s, c.id, c.until); at != c.at || ok != c.ok {
			t.Error(c, at, ok)
		}
	}
	if !bytes.Equal(s.Put(), was) {
		t.Error("something of the state changed")
	}
	s = state(t, "submit user=1 width=1 limit=5", "tell node=3 what=miss", "tell node=2 what=miss", "tell node=1 what=miss", "submit user=1 width=1 limit=5", "tell node=1 what=beat", "submit user=1 width=2 limit=5")
	if at, ok := When(s, 2, 99); at != 0 || ok {
		t.Error("one that runs", at, ok)
	}
	for _, none := range []*core.State{nil, {}} {
		if at, ok := When(none, 1, 5); len(Starts(none, 5)) != 0 || at != 0 || ok || len(Ends(none, 5)) != 0 || Quiet(none) != 0 || Used(none, 0, tick.Span{To: 5}) != 0 || Fill(none, 0, tick.Span{To: 5}) != 0 {
			t.Error("of none")
		}
	}
}

func TestStartsAtNow(t *testing.T) { // P31.1: of a state in which something is due
	s := state(t)
	s.Jobs().Add(job.Job{User: 1, Width: 2, Limit: 7, Plan: never, Promise: never})
	if at, ok := When(s, 1, 0); at != 0 || !ok {
		t.Error(at, ok)
	}
	if l := Starts(s, 0); !slices.Equal(l, []Start{{Job: 1, Nodes: bits.Of(0, 1)}}) {
		t.Error(l)
	}
}

func TestEnds(t *testing.T) { // P31.2
	s := some(t)
	want := []Span{
		{1, 0, bits.Of(0, 1), tick.Span{From: 0, To: 10}}, {2, 1, bits.Of(0, 1), tick.Span{From: 0, To: 12}}, {5, 0, bits.Of(2), tick.Span{From: 0, To: 3}}, {3, 0, bits.Of(0, 1, 2), tick.Span{From: 10, To: 15}}, {4, 1, bits.Of(0), tick.Span{From: 12, To: 16}},
	}
	for until, many := range map[api.Time]int{2: 3, 9: 3, 10: 4, 99: 5, 1: 0, never: 0, math.MinInt64: 0} {
		if got := Ends(s, until); !slices.Equal(got, want[:many]) {
			t.Error(until, got)
		}
	}
	late := state(t, "tick to=1099511627774", "submit user=1 width=1 limit=5")
	if got := Ends(late, never-1); !slices.Equal(got, []Span{{1, 0, bits.Of(0), tick.Span{From: never - 2, To: never}}}) {
		t.Error(got)
	}
}

func TestQuiet(t *testing.T) { // P31.3
	for want, s := range map[api.Time]*core.State{
		0:     state(t),
		7:     state(t, "tick to=7", "submit user=1 width=1 limit=5 hold"),
		15:    state(t, "submit user=1 width=3 limit=10", "submit user=1 width=3 limit=5"),
		16:    some(t),
		never: state(t, "tick to=1099511627774", "submit user=1 width=1 limit=5"),
		30:    state(t, "submit user=1 width=1 limit=5", "reserve from=0 many=20 width=2", "submit user=1 width=3 limit=10"),
	} {
		was := s.Put()
		if got := Quiet(s); got != want || !bytes.Equal(s.Put(), was) {
			t.Error(want, got)
		}
	}
	wild := state(t, "tick to=9")
	wild.Jobs().Add(job.Job{User: 1, Width: 2, Limit: 7, Plan: 3, Promise: 3})
	if got := Quiet(wild); got != 16 {
		t.Error("a plan that is past", got)
	}
}

func TestUsedAndFill(t *testing.T) { // P31.4
	s := some(t)
	for _, c := range []struct {
		part int
		t    tick.Span
		used int64
		fill int
	}{
		{0, tick.Span{From: 2, To: 10}, 17, 531}, {0, tick.Span{From: 2, To: 3}, 3, 750}, {0, tick.Span{From: 9, To: 12}, 8, 666}, {0, tick.Span{From: 3, To: 20}, 29, 426}, {0, tick.Span{From: 15, To: 20}, 0, 0}, {1, tick.Span{From: 2, To: 20}, 24, 666}, {1, tick.Span{From: 10, To: 13}, 5, 833},
		{0, tick.Span{From: 1, To: 10}, 0, 0}, {0, tick.Span{From: 10, To: 10}, 0, 0}, {0, tick.Span{From: 12, To: 10}, 0, 0}, {0, tick.Span{From: 2, To: never}, 0, 0}, {0, tick.Span{From: 2, To: math.MaxInt64}, 0, 0}, {0, tick.Span{From: -9, To: 10}, 0, 0}, {2, tick.Span{From: 2, To: 10}, 0, 0}, {-1, tick.Span{From: 2, To: 10}, 0, 0},
		{0, tick.Span{From: 2, To: never - 1}, 2*8 + 1 + 15, 0}, {1, tick.Span{From: 2, To: 3}, 2, 1000},
	} {
		if used, fill := Used(s, c.part, c.t), Fill(s, c.part, c.t); used != c.used || fill != c.fill {
			t.Error(c, used, fill)
		}
	}
}

func TestComesSo(t *testing.T) { // P31.5: what is to begin begins so
	s := state(t)
	k := uint32(23)
	next := func(n int) int { k = k*1664525 + 1013904223; return int(k>>8) % n }
	for range 60 {
		for range 4 {
			s.Do(cmd.Command{Kind: cmd.Submit, User: 1 + next(3), Part: next(2), Width: 1 + next(3), Time: api.Time(1 + next(9)), After: next(s.Jobs().Next())})
		}
		was, quiet := s.Put(), Quiet(s)
		told := Starts(s, s.Now()+20)
		if !bytes.Equal(s.Put(), was) {
			t.Fatal("something of the state changed")
		}
		on, to := s.Clone(), s.Now()+20
		var begun []Start
		for on.Now() < to {
			_, l := on.Do(cmd.Command{Kind: cmd.Tick, Time: on.Now() + 1})
			for _, e := range l {
				if !e.End {
					begun = append(begun, Start{e.Job, e.Part, e.At, e.Nodes})
				}
			}
			idle := on.Busy(0).Or(on.Busy(1)) == 0 && len(slices.Collect(on.Jobs().In(job.Running))) == 0
			for j := range on.Jobs().In(job.Waiting) {
				idle = idle && j.Plan == never
			}
			if idle != (on.Now() >= quiet) {
				t.Fatal("Quiet", quiet, on.Now())
			}
		}
		if !slices.Equal(told, begun) {
			t.Fatal(told, begun)
		}
		s.Do(cmd.Command{Kind: cmd.Tick, Time: s.Now() + api.Time(next(12))})
	}
}
