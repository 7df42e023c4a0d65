package plan

import (
	"math"
	"slices"
	"testing"

	"berthing/api"
	"berthing/fit"
	"berthing/prio"
	"berthing/tick"
	"berthing/usage"
)

const never = api.Never

// want is one that is not planned, and has no promise.
func want(id, width int, limit api.Time) Want {
	return Want{Id: id, Width: width, Limit: limit, Plan: never, Promise: never}
}

func at(w Want, plan, promise api.Time) Want {
	w.Plan, w.Promise = plan, promise
	return w
}

func from(w Want, t api.Time) Want {
	w.From = t
	return w
}

func with(w Want, p int) Want {
	w.Prio = p
	return w
}

func TestTake(t *testing.T) { // P19.1
	free := usage.Flat(4)
	l := []Want{at(want(1, 2, 5), 3, 0), at(want(1, 1, 2), 4, 0), want(2, 3, 9), at(want(3, 3, 9), -1, 0), from(at(want(4, 3, 9), 5, 0), 6), from(at(want(5, 3, 9), 0, 0), -3), at(want(6, 3, 0), 2, 0), at(want(7, 3, -8), 2, 0)}
	was := slices.Clone(l)
	left := Left(free, l)
	if Take(free, l...) != api.OK || !slices.Equal(l, was) || !usage.Same(left, free) {
		t.Error("Take, Left")
	}
	if got := free.List(); !slices.Equal(got, []usage.Step{{At: 0, Level: 1}, {At: 3, Level: -1}, {At: 4, Level: -2}, {At: 6, Level: -1}, {At: 8, Level: 1}, {At: 9, Level: 4}}) {
		t.Error(got)
	}
	if Take(nil) != api.ErrNil || Take(&usage.Steps{}, l...) != api.ErrNil || Take(usage.Flat(1)) != api.OK {
		t.Error("ErrNil")
	}
	free = usage.Flat(4)
	if got := Left(free, l); got == free || !usage.Same(free, usage.Flat(4)) || got.At(4) != -2 {
		t.Error("Left")
	}
	for _, none := range []*usage.Steps{nil, {}} {
		if got := Left(none, []Want{at(want(1, 2, never), 3, 0)}); !slices.Equal(got.List(), []usage.Step{{At: 0, Level: 0}, {At: 3, Level: -2}}) || !usage.Same(Left(none, nil), usage.Flat(0)) {
			t.Error(got.List())
		}
	}
	free = usage.Flat(4)
	if Take(free, at(want(1, math.MinInt, 1), 0, 0), at(want(1, math.MaxInt, 1), 1, 0)) != api.OK || free.At(0) != 1000000 || free.At(1) != -1000000 {
		t.Error(free.List())
	}
}

func TestIssue(t *testing.T) { // P19.2
	free := usage.Flat(3)
	l := []Want{at(want(1, 2, 5), 0, 0), at(want(2, 3, 5), 7, 9)}
	for _, c := range []struct{ w, want Want }{
		{want(3, 1, 5), at(want(3, 1, 5), 0, 0)}, {want(3, 2, 2), at(want(3, 2, 2), 5, 5)}, {want(3, 2, 3), at(want(3, 2, 3), 12, 12)}, {want(3, 4, 3), want(3, 4, 3)},
		{from(want(3, 1, 2), 6), from(at(want(3, 1, 2), 12, 12), 6)}, {at(want(3, 2, 2), 40, 3), at(want(3, 2, 2), 5, 3)}, {at(want(3, 2, 2), 40, 30), at(want(3, 2, 2), 5, 30)},
		{at(want(3, 2, 2), 40, never+1), at(want(3, 2, 2), 5, 5)}, {want(1, 3, 5), at(want(1, 3, 5), 0, 0)}, {at(want(1, 3, 5), 9, 2), at(want(1, 3, 5), 0, 2)}, {want(2, 2, 9), at(want(2, 2, 9), 5, 5)},
		{from(want(3, 1, 1), never+5), from(want(3, 1, 1), never+5)}, {at(want(3, 4, 3), 2, 2), at(want(3, 4, 3), never, 2)},
	} {
		if got := Issue(free, l, c.w); got != c.want {
			t.Error(c.w, got)
		}
	}
	if got := Issue(nil, nil, want(1, 0, 1)); got != at(want(1, 0, 1), 0, 0) {
		t.Error(got)
	}
	if got := Issue(nil, nil, want(1, 1, 1)); got != want(1, 1, 1) {
		t.Error(got)
	}
}

func TestPress(t *testing.T) { // P19.3
	free := usage.Flat(3)
	for name, c := range map[string]struct{ l, want []Want }{
		"none":            {nil, nil},
		"two":             {[]Want{want(1, 2, 5), want(2, 2, 5)}, []Want{at(want(1, 2, 5), 0, 0), at(want(2, 2, 5), 5, 5)}},
		"by priority":     {[]Want{want(1, 2, 5), with(want(2, 2, 5), 7)}, []Want{at(want(1, 2, 5), 5, 5), with(at(want(2, 2, 5), 0, 0), 7)}},
		"by number":       {[]Want{want(2, 2, 5), want(1, 2, 5)}, []Want{at(want(2, 2, 5), 5, 5), at(want(1, 2, 5), 0, 0)}},
		"of one number":   {[]Want{want(1, 2, 5), want(1, 2, 4)}, []Want{at(want(1, 2, 5), 0, 0), at(want(1, 2, 4), 5, 5)}},
		"earlier":         {[]Want{at(want(1, 2, 5), 9, 12)}, []Want{at(want(1, 2, 5), 0, 12)}},
		"a gap is left":   {[]Want{at(want(1, 3, 2), 5, 9), want(2, 2, 6), at(want(3, 1, 9), 20, never)}, []Want{at(want(1, 3, 2), 0, 9), at(want(2, 2, 6), 2, 2), at(want(3, 1, 9), 2, 2)}},
		"not later":       {[]Want{at(want(1, 3, 5), 2, 3), at(want(2, 3, 5), 4, 4)}, []Want{at(want(1, 3, 5), 2, 3), at(want(2, 3, 5), 4, 4)}},
		"stays as it is":  {[]Want{at(want(1, 3, 5), 2, never), at(want(2, 3, 5), 4, 4)}, []Want{at(want(1, 3, 5), 2, never), at(want(2, 3, 5), 4, 4)}},
		"others move not": {[]Want{with(want(1, 3, 5), 9), at(want(2, 3, 5), 3, 3)}, []Want{with(at(want(1, 3, 5), 8, 8), 9), at(want(2, 3, 5), 0, 3)}},
		"below from":      {[]Want{from(at(want(1, 1, 5), 2, 2), 4)}, []Want{from(at(want(1, 1, 5), 4, 2), 4)}},
		"too wide":        {[]Want{want(1, 4, 5), want(2, 1, 5)}, []Want{want(1, 4, 5), at(want(2, 1, 5), 0, 0)}},
	} {
		was := slices.Clone(c.l)
		if got := Press(free, c.l); !slices.Equal(got, c.want) || !slices.Equal(c.l, was) {
			t.Error(name, got)
		}
	}
	if got := Press(nil, []Want{want(1, 1, 1)}); got[0] != want(1, 1, 1) {
		t.Error(got)
	}
}

func TestAnew(t *testing.T) { // P19.4
	free := usage.Flat(3)
	for name, c := range map[string]struct{ l, want []Want }{
		"none":           {nil, nil},
		"by promise":     {[]Want{with(at(want(1, 2, 5), 0, 9), 5), at(want(2, 2, 5), 7, 8)}, []Want{with(at(want(1, 2, 5), 5, 9), 5), at(want(2, 2, 5), 0, 8)}},
		"by number":      {[]Want{at(want(2, 2, 5), 0, 8), at(want(1, 2, 5), 7, 8)}, []Want{at(want(2, 2, 5), 5, 8), at(want(1, 2, 5), 0, 8)}},
		"of one number":  {[]Want{at(want(1, 2, 5), 0, 8), at(want(1, 2, 4), 7, 8)}, []Want{at(want(1, 2, 5), 0, 8), at(want(1, 2, 4), 5, 8)}},
		"made later":     {[]Want{at(want(1, 2, 5), 0, 0), at(want(2, 2, 5), 0, 1)}, []Want{at(want(1, 2, 5), 0, 0), at(want(2, 2, 5), 5, 5)}},
		"later may be":   {[]Want{at(want(1, 2, 5), 0, 0), at(want(2, 2, 5), 1, 9)}, []Want{at(want(1, 2, 5), 0, 0), at(want(2, 2, 5), 5, 9)}},
		"to never":       {[]Want{at(want(1, 4, 5), 0, 3)}, []Want{want(1, 4, 5)}},
		"no promise":     {[]Want{want(1, 3, 5), at(want(2, 3, 5), 9, 40), at(want(3, 1, 1), 2, never+7)}, []Want{at(want(1, 3, 5), 5, 5), at(want(2, 3, 5), 0, 40), at(want(3, 1, 1), 10, 10)}},
		"no promise, on": {[]Want{want(1, 4, 5), at(want(2, 4, 5), 0, never+7)}, []Want{want(1, 4, 5), want(2, 4, 5)}},
	} {
		was := slices.Clone(c.l)
		if got := Anew(free, c.l); !slices.Equal(got, c.want) || !slices.Equal(c.l, was) {
			t.Error(name, got)
		}
	}
}

// pressed is what Press does, one by one, by what all others leave.
func pressed(free *usage.Steps, l []Want) []Want {
	var items []prio.Item
	for _, w := range l {
		items = append(items, prio.Item{Id: w.Id, Prio: w.Prio})
	}
	by := slices.Clone(l)
	for _, it := range prio.Sort(items) {
		i := slices.IndexFunc(by, func(w Want) bool { return w.Id == it.Id })
		others := slices.Delete(slices.Clone(by), i, i+1)
		plan := fit.Earliest(Left(free, others), by[i].From, by[i].Limit, by[i].Width)
		if was := by[i].Plan; was >= max(by[i].From, 0) && was < never && was < plan {
			continue
		}
		by[i].Plan = plan
		if by[i].Promise >= never {
			by[i].Promise = plan
		}
	}
	return by
}

func TestBeyondLevels(t *testing.T) { // P19.3: what others leave is the same, where levels come to an end
	k := uint32(5)
	next := func(n int) int { k = k*1664525 + 1013904223; return int(k>>8) % n }
	for _, level := range []int{-999990, 999990, -1000000, 5} {
		for range 200 {
			free := usage.Flat(level)
			var l []Want
			for id := range 2 + next(6) {
				w := with(want(id+1, level+next(99)-49, api.Time(1+next(9))), next(3))
				if next(2) == 0 {
					w.Width = next(99) - 49
				}
				l = append(l, at(w, api.Time(next(9)), never))
			}
			if got := Press(free, l); !slices.Equal(got, pressed(free, l)) {
				t.Fatal(l, got, pressed(free, l))
			}
		}
	}
}

func TestDueAndNext(t *testing.T) { // P19.5
	l := []Want{at(want(3, 1, 1), 5, 5), with(at(want(4, 1, 1), 5, 5), 2), at(want(1, 1, 1), 6, 6), at(want(2, 1, 1), 5, 9), from(at(want(5, 1, 1), 2, 2), 3), at(want(6, 1, 1), -4, 0), want(7, 1, 1)}
	got := Due(l, 5)
	if len(got) != 3 || got[0] != l[1] || got[1] != l[3] || got[2] != l[0] || len(Due(l, 4)) != 0 || len(Due(nil, 5)) != 0 {
		t.Error(got)
	}
	if Next(l) != 5 || Next(l[4:]) != never || Next(nil) != never || Next(l[2:3]) != 6 {
		t.Error(Next(l))
	}
}

func TestPromises(t *testing.T) { // P19.3, P19.4, P19.6: against what each is placed by, and what all leave
	k := uint32(11)
	next := func(n int) int { k = k*1664525 + 1013904223; return int(k>>8) % n }
	for range 400 {
		free := usage.Flat(4 + next(3))
		free.Add(tick.Of(api.Time(next(9)), api.Time(next(9))), -next(4))
		var l []Want
		for id := range 1 + next(7) {
			w := with(from(want(id+1, 1+next(5), api.Time(1+next(6))), api.Time(next(4))), next(3))
			if next(2) == 0 {
				w.Promise = api.Time(next(30))
			}
			l = append(l, Issue(free, l, w))
		}
		for _, planned := range [][]Want{l, Press(free, l), Anew(free, l)} {
			if least := Left(free, planned).Least(tick.Span{To: never}); least < 0 {
				t.Fatal(least, planned)
			}
		}
		got := Press(free, l)
		for i, w := range got {
			if l[i].Plan < never && w.Plan > l[i].Plan || w.Id != l[i].Id || w.Promise != l[i].Promise && l[i].Promise < never {
				t.Fatal(l, got)
			}
		}
		if !slices.Equal(got, pressed(free, l)) {
			t.Fatal(got, pressed(free, l))
		}
	}
}
