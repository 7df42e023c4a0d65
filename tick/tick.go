// Package tick is layer 1: times that do not leave their bounds. See shared/doc/01-tick.md.
package tick

import (
	"cmp"
	"slices"

	"berthing/api"
)

// Clamp tells the nearest time from 0 to Never.
func Clamp(t api.Time) api.Time { return min(max(t, 0), api.Never) }

// Add tells the time so much later.
func Add(a, b api.Time) api.Time { return Clamp(Clamp(a) + Clamp(b)) }

// Sub tells how much later the first one is.
func Sub(a, b api.Time) api.Time {
	a, b = Clamp(a), Clamp(b)
	switch {
	case b == api.Never:
		return 0
	case a == api.Never:
		return api.Never
	}
	return Clamp(a - b)
}

// Times tells so often a time.
func Times(a api.Time, n int) api.Time {
	a = Clamp(a)
	switch {
	case n < 1 || a == 0:
		return 0
	case api.Time(n) > api.Never/a: // the product is never made, as it might not fit
		return api.Never
	}
	return a * api.Time(n)
}

// Up tells the first multiple of a step that is not below.
func Up(a, step api.Time) api.Time {
	a, step = Clamp(a), Clamp(step)
	if step < 1 || a == api.Never {
		return a
	}
	return Clamp((a + step - 1) / step * step)
}

// Span is times, from one on up to another, which is not among them.
type Span struct{ From, To api.Time }

// Right tells whether one may be.
func (s Span) Right() bool { return s == s.clamped() && s.From <= s.To }

// Empty tells whether no time is in it.
func (s Span) Empty() bool { return Clamp(s.From) >= Clamp(s.To) }

// Holds tells whether a time is in it.
func (s Span) Holds(t api.Time) bool {
	s, t = s.clamped(), Clamp(t)
	return s.From <= t && t < s.To
}

// Meets tells whether two have a time in common.
func (s Span) Meets(o Span) bool { return !s.both(o).Empty() }

// Len tells how many times are in it.
func (s Span) Len() api.Time {
	if s.Empty() {
		return 0
	}
	return Sub(s.To, s.From)
}

// Cut tells the times of both.
func (s Span) Cut(o Span) Span {
	both := s.both(o)
	if both.Empty() {
		return Span{}
	}
	return both
}

// Join tells spans that rise, and do not touch, of all times of some.
func Join(l ...Span) []Span {
	var rest []Span
	for _, s := range l {
		if !s.Empty() {
			rest = append(rest, s.clamped())
		}
	}
	slices.SortFunc(rest, func(a, b Span) int { return cmp.Compare(a.From, b.From) })
	touches := func(a, b Span) bool { return b.From <= a.To }
	var joined []Span
	for _, s := range rest {
		last := len(joined) - 1
		if last >= 0 && touches(joined[last], s) {
			joined[last].To = max(joined[last].To, s.To)
		} else {
			joined = append(joined, s)
		}
	}
	return joined
}

// Of tells the span of so many times from one on.
func Of(from, many api.Time) Span { return Span{From: Clamp(from), To: Add(from, many)} }

func (s Span) clamped() Span { return Span{From: Clamp(s.From), To: Clamp(s.To)} }

func (s Span) both(o Span) Span {
	s, o = s.clamped(), o.clamped()
	return Span{From: max(s.From, o.From), To: min(s.To, o.To)}
}
