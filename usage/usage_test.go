package usage

import (
	"math"
	"slices"
	"testing"

	"berthing/api"
	"berthing/tick"
)

const never = api.Never

func of(t *testing.T, l ...Step) *Steps {
	t.Helper()
	s, bad := Of(l)
	if bad != api.OK {
		t.Fatal(bad, l)
	}
	return s
}

func same(t *testing.T, s *Steps, want ...Step) {
	t.Helper()
	if !slices.Equal(s.List(), want) {
		t.Error(s.List(), "not", want)
	}
}

func TestOf(t *testing.T) { // P10.1
	for _, l := range [][]Step{nil, {}, {{1, 0}}, {{-1, 0}}, {{0, 1}, {3, 1}}, {{0, 1}, {3, 2}, {3, 1}}, {{0, 1}, {5, 2}, {3, 1}}, {{0, 1}, {never, 2}}, {{0, 1000001}}, {{0, -1000001}}, {{0, math.MinInt}}, {{0, 0}, {4, math.MaxInt}}} {
		if s, bad := Of(l); bad != api.ErrArg || s != nil {
			t.Error(l)
		}
	}
	in := []Step{{0, 1000000}, {never - 1, -1000000}}
	s := of(t, in...)
	in[0].Level = 3
	s.List()[0].Level = 4
	same(t, s, Step{0, 1000000}, Step{never - 1, -1000000})
	same(t, Flat(7), Step{0, 7})
	same(t, Flat(math.MaxInt), Step{0, 1000000})
	same(t, Flat(math.MinInt), Step{0, -1000000})
	c := s.Clone()
	s.Set(tick.Span{To: never}, 2)
	same(t, c, Step{0, 1000000}, Step{never - 1, -1000000})
	if !Same(c, of(t, c.List()...)) || Same(c, s) || Same(Flat(1), Flat(2)) {
		t.Error("Same")
	}
}

func TestNone(t *testing.T) { // P10.1 to P10.4
	for _, s := range []*Steps{nil, {}} {
		all := tick.Span{To: never}
		if s.Clone() != nil || len(s.List()) != 0 || s.Add(all, 1) != api.ErrNil || s.Set(all, 1) != api.ErrNil || s.Forget(5) != api.ErrNil || s.Forget(never) != api.ErrNil {
			t.Error("of none")
		}
		if s.At(3) != 0 || s.Least(all) != 0 || s.Most(all) != 0 || s.Area(all) != 0 || !Same(s, nil) || !Same(&Steps{}, s) || Same(s, Flat(0)) || Same(Flat(0), s) {
			t.Error("of none")
		}
	}
}

func TestAddAndSet(t *testing.T) { // P10.2
	s := Flat(0)
	s.Add(tick.Span{From: 3, To: 7}, 2)
	same(t, s, Step{0, 0}, Step{3, 2}, Step{7, 0})
	s.Add(tick.Span{From: 7, To: 9}, 2)
	same(t, s, Step{0, 0}, Step{3, 2}, Step{9, 0})
	s.Add(tick.Span{From: 5, To: never}, 1)
	same(t, s, Step{0, 0}, Step{3, 2}, Step{5, 3}, Step{9, 1})
	s.Set(tick.Span{From: 4, To: 9}, 1)
	same(t, s, Step{0, 0}, Step{3, 2}, Step{4, 1})
	s.Set(tick.Span{From: -3, To: never + 3}, 8)
	same(t, s, Step{0, 8})
	s.Add(tick.Span{From: 0, To: 1}, math.MinInt)
	s.Add(tick.Span{From: never - 1, To: never + 1}, math.MaxInt)
	same(t, s, Step{0, -1000000}, Step{1, 8}, Step{never - 1, 1000000})
	s.Set(tick.Span{From: 0, To: 1}, math.MaxInt)
	same(t, s, Step{0, 1000000}, Step{1, 8}, Step{never - 1, 1000000})
	low := Flat(-1000000)
	if low.Add(tick.Span{To: 1}, 1500000); low.At(0) != 500000 {
		t.Error(low.List())
	}
	for _, empty := range []tick.Span{{From: 5, To: 5}, {From: 8, To: 2}, {From: -4, To: 0}, {From: never, To: never + 1}} {
		if s.Add(empty, 5) != api.OK || s.Set(empty, 5) != api.OK {
			t.Error(empty)
		}
	}
	same(t, s, Step{0, 1000000}, Step{1, 8}, Step{never - 1, 1000000})
}

func TestLevels(t *testing.T) { // P10.3
	s := of(t, Step{0, 4}, Step{5, -1}, Step{9, 6})
	for at, want := range map[api.Time]int{-9: 4, 0: 4, 4: 4, 5: -1, 8: -1, 9: 6, never: 6, math.MaxInt64: 6, math.MinInt64: 4} {
		if s.At(at) != want {
			t.Error(at, s.At(at))
		}
	}
	for span, want := range map[tick.Span][3]api.Time{
		{From: 0, To: 5}: {4, 4, 20}, {From: 4, To: 6}: {-1, 4, 4}, {From: 8, To: 10}: {-1, 6, 6}, {From: 5, To: 9}: {-1, -1, 0}, {From: -7, To: 1}: {4, 4, 4},
		{From: 3, To: 3}: {}, {From: 9, To: 3}: {}, {From: never, To: never}: {}, {From: 0, To: never}: {-1, 6, never}, {From: never - 2, To: never + 2}: {6, 6, 12}, {From: 0, To: 12}: {-1, 6, 38},
	} {
		if s.Least(span) != int(want[0]) || s.Most(span) != int(want[1]) || s.Area(span) != want[2] {
			t.Error(span, s.Least(span), s.Most(span), s.Area(span))
		}
	}
	if s := of(t, Step{0, 5}, Step{never - 1, 3}); s.At(never-2) != 5 || s.At(never-1) != 3 || s.At(never) != 3 {
		t.Error("the last time")
	}
	all := tick.Span{To: never}
	if Flat(1).Area(all) != never || Flat(1).Area(tick.Span{From: 5, To: never}) != never-5 || Flat(1000000).Area(all) != never || Flat(-5).Area(all) != 0 {
		t.Error("Area")
	}
}

func TestForget(t *testing.T) { // P10.4
	for at, want := range map[api.Time][]Step{
		-1: {{0, 4}, {5, 1}, {9, 6}}, 0: {{0, 4}, {5, 1}, {9, 6}}, 3: {{0, 4}, {5, 1}, {9, 6}}, 5: {{0, 1}, {9, 6}}, 8: {{0, 1}, {9, 6}}, 9: {{0, 6}},
		never - 1: {{0, 6}}, never: {{0, 4}, {5, 1}, {9, 6}}, math.MaxInt64: {{0, 4}, {5, 1}, {9, 6}},
	} {
		s := of(t, Step{0, 4}, Step{5, 1}, Step{9, 6})
		if s.Forget(at) != api.OK {
			t.Error(at)
		}
		same(t, s, want...)
	}
}

func TestAgainstArray(t *testing.T) { // P10.2, P10.3, P10.5: against levels that stand one by one
	const many = 12
	s, flat := Flat(0), [many]int{}
	k := uint32(7)
	next := func(n uint32) int { k = k*1664525 + 1013904223; return int((k >> 8) % n) }
	for range 4000 {
		span := tick.Span{From: api.Time(next(many + 1)), To: api.Time(next(many + 1))}
		by := next(9) - 4
		before := s.Clone()
		if next(4) == 0 {
			s.Set(span, by)
			for i := span.From; i < span.To; i++ {
				flat[i] = by
			}
		} else {
			s.Add(span, by)
			for i := span.From; i < span.To; i++ {
				flat[i] += by
			}
			undone := s.Clone()
			undone.Add(span, -by)
			if !Same(undone, before) {
				t.Fatal("taken off again", span, by)
			}
		}
		if !right(s.List()) {
			t.Fatal("not right", s.List())
		}
		look := tick.Span{From: api.Time(next(many)), To: many}
		area, low, high := 0, math.MaxInt, math.MinInt
		for i := range flat {
			if s.At(api.Time(i)) != flat[i] {
				t.Fatal(i, s.List(), flat)
			}
			if look.Holds(api.Time(i)) {
				area, low, high = area+max(flat[i], 0), min(low, flat[i]), max(high, flat[i])
			}
		}
		if s.At(many) != 0 || s.Area(look) != api.Time(area) || s.Least(look) != low || s.Most(look) != high {
			t.Fatal(look, s.List())
		}
	}
}
