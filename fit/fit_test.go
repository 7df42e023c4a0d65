package fit

import (
	"math"
	"slices"
	"testing"

	"berthing/api"
	"berthing/tick"
	"berthing/usage"
)

const never = api.Never

func steps(t *testing.T, l ...usage.Step) *usage.Steps {
	t.Helper()
	s, bad := usage.Of(l)
	if bad != api.OK {
		t.Fatal(bad)
	}
	return s
}

func hole(t *testing.T) *usage.Steps {
	return steps(t, usage.Step{At: 0, Level: 4}, usage.Step{At: 5, Level: 1}, usage.Step{At: 9, Level: 4})
}

func TestFitsAndWidest(t *testing.T) { // P11.1
	free := hole(t)
	for _, c := range []struct {
		span  tick.Span
		width int
		want  bool
	}{
		{tick.Span{From: 0, To: 5}, 4, true}, {tick.Span{From: 0, To: 5}, 5, false}, {tick.Span{From: 0, To: 6}, 2, false}, {tick.Span{From: 8, To: never}, 1, true},
		{tick.Span{From: 6, To: 6}, 99, true}, {tick.Span{From: 9, To: 6}, math.MaxInt, true}, {tick.Span{From: -5, To: never + 5}, 1, true}, {tick.Span{From: 5, To: 9}, math.MinInt, true},
	} {
		if Fits(free, c.span, c.width) != c.want {
			t.Error(c)
		}
	}
	for _, c := range []struct {
		from, many api.Time
		want       int
	}{{0, 5, 4}, {4, 0, 4}, {4, 2, 1}, {0, 6, 1}, {3, 0, 4}, {5, -9, 1}, {8, 2, 1}, {9, never, 4}, {-7, 5, 4}, {never, 3, 4}, {never + 7, -1, 4}, {math.MinInt64, math.MaxInt64, 1}, {never - 1, math.MinInt64, 4}} {
		if got := Widest(free, c.from, c.many); got != c.want {
			t.Error(c, got)
		}
	}
}

func TestEarliestAndLatest(t *testing.T) { // P11.2
	free := hole(t)
	for _, c := range []struct {
		from, many api.Time
		width      int
		want       api.Time
	}{
		{3, 3, 2, 9}, {2, 3, 2, 2}, {0, 5, 4, 0}, {0, 6, 4, 9}, {1, 5, 4, 9}, {6, 1, 1, 6}, {6, never, 1, 6}, {0, never, 2, 9}, {0, 1, 5, never}, {5, 0, 2, 9}, {4, -3, 2, 4},
		{-3, 2, 2, 0}, {never, 1, 1, never}, {never + 5, 1, 1, never}, {never - 1, 5, 4, never - 1}, {7, math.MaxInt64, math.MinInt, 7}, {0, math.MinInt64, math.MaxInt, never},
	} {
		if got := Earliest(free, c.from, c.many, c.width); got != c.want {
			t.Error(c, got)
		}
	}
	if Earliest(usage.Flat(4), 3, 5, 4) != 3 || Earliest(usage.Flat(4), 3, 5, 5) != never {
		t.Error("of one level")
	}
	for _, c := range []struct {
		span  tick.Span
		many  api.Time
		width int
		want  api.Time
		ok    bool
	}{
		{tick.Span{From: 0, To: 5}, 3, 2, 2, true}, {tick.Span{From: 0, To: 12}, 3, 2, 11, true}, {tick.Span{From: 3, To: 9}, 3, 2, 0, false}, {tick.Span{From: 3, To: 10}, 3, 2, 9, true},
		{tick.Span{From: 4, To: 4}, 1, 1, 0, false}, {tick.Span{From: 9, To: 1}, 1, 1, 0, false}, {tick.Span{From: -4, To: never + 9}, 1, 1, never - 1, true}, {tick.Span{From: 0, To: 9}, 1, 5, 0, false},
		{tick.Span{From: 0, To: 9}, never, 2, 0, false}, {tick.Span{From: never, To: never}, 1, 1, 0, false}, {tick.Span{From: 0, To: 1}, 1, 1, 0, true},
	} {
		if got, ok := Latest(free, c.span, c.many, c.width); got != c.want || ok != c.ok {
			t.Error(c, got, ok)
		}
	}
}

func TestNoSteps(t *testing.T) { // Words: the level is 0
	for _, free := range []*usage.Steps{nil, {}} {
		if !Fits(free, tick.Span{To: 9}, 0) || Fits(free, tick.Span{To: 9}, 1) || !Fits(free, tick.Span{To: 9}, -1) {
			t.Error("Fits")
		}
		if Earliest(free, 4, 5, 0) != 4 || Earliest(free, 4, 5, 1) != never || Widest(free, 4, 5) != 0 || Widest(free, never, 5) != 0 {
			t.Error("Earliest")
		}
		if at, ok := Latest(free, tick.Span{To: 9}, 3, 0); at != 8 || !ok {
			t.Error("Latest", at, ok)
		}
	}
}

func TestStarts(t *testing.T) { // P11.3
	free := hole(t)
	for _, c := range []struct {
		from, many api.Time
		width      int
		want       []tick.Span
	}{
		{0, 3, 2, []tick.Span{{From: 0, To: 3}, {From: 9, To: never}}}, {1, 5, 2, []tick.Span{{From: 9, To: never}}}, {0, 5, 2, []tick.Span{{From: 0, To: 1}, {From: 9, To: never}}},
		{12, 1, 4, []tick.Span{{From: 12, To: never}}}, {0, 1, 1, []tick.Span{{From: 0, To: never}}}, {0, 1, 5, nil}, {never, 1, 1, nil},
	} {
		if got := slices.Collect(Starts(free, c.from, c.many, c.width)); !slices.Equal(got, c.want) {
			t.Error(c, got)
		}
	}
	told := Starts(free, 0, 1, 2)
	for range told {
		break
	}
	if len(slices.Collect(told)) != 2 {
		t.Error("told twice")
	}
}

func TestAgainstEachTime(t *testing.T) { // P11.2 to P11.4: against times that are looked at one by one
	const last = 14
	k := uint32(3)
	next := func(n uint32) int { k = k*1664525 + 1013904223; return int((k >> 8) % n) }
	for range 600 {
		free := usage.Flat(0)
		for range 5 {
			free.Add(tick.Of(api.Time(next(last)), api.Time(next(6))), next(7)-2)
		}
		from := api.Time(next(last))
		span := tick.Span{From: api.Time(next(last)), To: api.Time(next(last))}
		for width := -1; width < 6; width++ {
			for many := api.Time(-1); many < 7; many++ {
				starts := slices.Collect(Starts(free, from, many, width))
				for i, s := range starts {
					if !s.Right() || s.Empty() || i > 0 && s.From <= starts[i-1].To {
						t.Fatal(starts)
					}
				}
				first, latest, found := never, api.Time(0), false
				for at := api.Time(0); at < last+8; at++ {
					good := Fits(free, tick.Of(at, max(many, 1)), width)
					if good && many > 1 && !Fits(free, tick.Of(at, many-1), width) || good && !Fits(free, tick.Of(at, many), width-1) {
						t.Fatal("P11.4")
					}
					if at >= from && good {
						first = min(first, at)
					}
					if span.Holds(at) && good {
						latest, found = at, true
					}
					in := slices.ContainsFunc(starts, func(s tick.Span) bool { return s.Holds(at) })
					if in != (good && at >= from) {
						t.Fatal(at, from, many, width, free.List(), starts)
					}
				}
				if Earliest(free, from, many, width) != first {
					t.Fatal("Earliest", free.List(), from, many, width)
				}
				if at, ok := Latest(free, span, many, width); at != latest || ok != found {
					t.Fatal("Latest", free.List(), span, many, width, at, ok)
				}
			}
		}
	}
}
