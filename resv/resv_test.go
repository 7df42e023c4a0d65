package resv

import (
	"bytes"
	"math"
	"slices"
	"testing"

	"berthing/api"
	"berthing/coding"
	"berthing/fit"
	"berthing/tick"
	"berthing/usage"
)

const never = api.Never

func span(from, to api.Time) tick.Span { return tick.Span{From: from, To: to} }

func lay(l ...int64) []byte {
	var b []byte
	for _, v := range l {
		b = coding.PutInt(b, v)
	}
	return b
}

func two(t *testing.T) *List {
	t.Helper()
	l := New()
	if id, bad := l.Add(usage.Flat(4), span(5, 9), 3); id != 1 || bad != api.OK {
		t.Fatal(id, bad)
	}
	if id, bad := l.Add(usage.Flat(4), span(8, 12), 1); id != 2 || bad != api.OK {
		t.Fatal(id, bad)
	}
	return l
}

func TestNew(t *testing.T) { // P18.1
	l := New()
	if len(l.All()) != 0 || l.Next() != 1 {
		t.Error("New")
	}
	l = two(t)
	c := l.Clone()
	l.Drop(1)
	l.All()[0].Width = 9
	if !slices.Equal(c.All(), []Resv{{1, span(5, 9), 3}, {2, span(8, 12), 1}}) || c.Next() != 3 || !slices.Equal(l.All(), []Resv{{2, span(8, 12), 1}}) {
		t.Error(c.All(), l.All())
	}
	for _, none := range []*List{nil, {}} {
		_, a := none.Add(nil, span(3, 2), 0)
		at, f := none.Find(usage.Flat(1), 0, 0, 0)
		if none.Clone() != nil || len(none.All()) != 0 || none.Next() != 0 || a != api.ErrNil || none.Drop(1) != api.ErrNil || len(none.Past(9)) != 0 || f != api.ErrNil || at != 0 || !bytes.Equal(none.Put([]byte{3}), []byte{3}) {
			t.Error("of none")
		}
	}
}

func TestAdd(t *testing.T) { // P18.2
	l := two(t)
	free := usage.Flat(4)
	for _, c := range []struct {
		t     tick.Span
		width int
		bad   api.Errno
	}{
		{span(8, 10), 2, api.ErrState}, {span(8, 9), 1, api.ErrState}, {span(0, 6), 2, api.ErrState}, {span(0, 5), 5, api.ErrState}, {span(5, 5), 1, api.ErrArg}, {span(6, 5), 1, api.ErrArg}, {span(-1, 5), 1, api.ErrArg},
		{span(5, never), 1, api.ErrArg}, {span(5, never+1), 1, api.ErrArg}, {span(1, 2), 0, api.ErrArg}, {span(1, 2), 65, api.ErrArg}, {span(1, 2), math.MinInt, api.ErrArg}, {span(math.MinInt64, math.MaxInt64), math.MaxInt, api.ErrArg},
	} {
		if id, bad := l.Add(free, c.t, c.width); bad != c.bad || id != 0 {
			t.Error(c, id, bad)
		}
	}
	if l.Next() != 3 || len(l.All()) != 2 || !usage.Same(free, usage.Flat(4)) {
		t.Error("an error changed something")
	}
	for _, none := range []*usage.Steps{nil, {}} {
		if id, bad := l.Add(none, span(0, 1), 0); bad != api.ErrNil || id != 0 {
			t.Error("steps that nobody made", bad)
		}
	}
	if id, bad := New().Add(usage.Flat(64), span(0, 1), 64); id != 1 || bad != api.OK {
		t.Error("the widest", bad)
	}
	if id, bad := l.Add(free, span(9, never-1), 3); id != 3 || bad != api.OK {
		t.Error(id, bad)
	}
	if l.Drop(0) != api.ErrNone || l.Drop(4) != api.ErrNone || l.Drop(-1) != api.ErrNone || l.Drop(2) != api.OK || l.Drop(2) != api.ErrNone {
		t.Error("Drop")
	}
	if id, bad := l.Add(free, span(0, 1), 4); id != 4 || bad != api.OK {
		t.Error(id, bad)
	}
	for l.Next() <= 9 {
		l.Add(usage.Flat(99), span(100, 101), 1)
	}
	if id, bad := l.Add(usage.Flat(99), span(100, 101), 1); bad != api.ErrFull || id != 0 || len(l.All()) != 8 {
		t.Error(id, bad)
	}
	if _, bad := l.Add(usage.Flat(0), span(100, 101), 1); bad != api.ErrFull {
		t.Error(bad)
	}
	if _, bad := l.Add(usage.Flat(0), span(100, 101), 0); bad != api.ErrArg {
		t.Error(bad)
	}
	last, _, _ := Read(lay(1<<30, 0))
	if id, bad := last.Add(free, span(0, 1), 1); id != 1<<30 || bad != api.OK {
		t.Error(id, bad)
	}
	if id, bad := last.Add(free, span(0, 1), 1); id != 0 || bad != api.ErrFull {
		t.Error(id, bad)
	}
}

func TestPast(t *testing.T) { // P18.3
	for now, want := range map[api.Time][]int{-1: nil, 8: nil, 9: {1}, 11: {1}, 12: {1, 2}, never: {1, 2}, math.MaxInt64: {1, 2}, math.MinInt64: nil} {
		l := two(t)
		if got := l.Past(now); !slices.Equal(got, want) || len(l.All()) != 2-len(want) || l.Next() != 3 {
			t.Error(now, got)
		}
	}
}

func TestLowerAndFind(t *testing.T) { // P18.3
	l := two(t)
	free := usage.Flat(4)
	if Lower(free, l.All()...) != api.OK || !slices.Equal(free.List(), []usage.Step{{At: 0, Level: 4}, {At: 5, Level: 1}, {At: 8, Level: 0}, {At: 9, Level: 3}, {At: 12, Level: 4}}) {
		t.Error(free.List())
	}
	if Lower(free, Resv{T: span(0, 1), Width: math.MinInt}, Resv{T: span(1, 2), Width: math.MaxInt}, Resv{T: span(3, 3), Width: 5}) != api.OK || free.At(0) != 1000000 || free.At(1) != -1000000 || free.At(3) != 4 {
		t.Error(free.List())
	}
	if Lower(nil) != api.ErrNil || Lower(&usage.Steps{}, l.All()...) != api.ErrNil || Lower(usage.Flat(1)) != api.OK {
		t.Error("ErrNil")
	}
	for _, c := range []struct {
		from, many api.Time
		width      int
		want       api.Time
		bad        api.Errno
	}{
		{0, 5, 4, 0, api.OK}, {1, 5, 4, 12, api.OK}, {3, 3, 2, 9, api.OK}, {0, 5, 5, never, api.OK}, {-4, never, 1, 9, api.OK}, {math.MaxInt64, 1, 1, never, api.OK},
		{0, 0, 1, 0, api.ErrArg}, {0, -5, 1, 0, api.ErrArg}, {0, 1, 0, 0, api.ErrArg}, {0, 1, 65, 0, api.ErrArg}, {0, 1, math.MinInt, 0, api.ErrArg},
	} {
		free := usage.Flat(4)
		if got, bad := l.Find(free, c.from, c.many, c.width); got != c.want || bad != c.bad || !usage.Same(free, usage.Flat(4)) {
			t.Error(c, got, bad)
		}
	}
	if at, bad := l.Find(nil, 0, 0, 0); at != 0 || bad != api.ErrNil {
		t.Error(at, bad)
	}
}

func TestBytes(t *testing.T) { // P18.4
	l := two(t)
	want := append([]byte{9}, lay(3, 2, 1, 5, 9, 3, 2, 8, 12, 1)...)
	if got := l.Put([]byte{9}); !bytes.Equal(got, want) {
		t.Errorf("% x", got)
	}
	room := append(make([]byte, 0, 999), 9)
	if l.Put(room); room[:2][1] != 0 {
		t.Error("spare room was written")
	}
	if got, n, bad := Read(New().Put(nil)); bad != api.OK || n != 2 || got.Next() != 1 {
		t.Error("an empty one", n, bad)
	}
	got, n, bad := Read(append(bytes.Clone(want[1:]), 7, 7))
	if bad != api.OK || n != len(want)-1 || !slices.Equal(got.All(), l.All()) || got.Next() != 3 {
		t.Error(n, bad)
	}
	if got, n, bad := Read(lay(1<<30+1, 0)); bad != api.OK || n != 6 || got.Next() != 1<<30+1 {
		t.Error(n, bad)
	}
	for name, b := range map[string][]byte{
		"nothing": nil, "next 0": lay(0, 0), "next below 0": lay(-1, 0), "too great a next": lay(1<<30+2, 0), "many below 0": lay(1, -1), "too many": lay(99, 9, 1, 2, 3, 1, 2, 2, 3, 1, 3, 2, 3, 1, 4, 2, 3, 1, 5, 2, 3, 1, 6, 2, 3, 1, 7, 2, 3, 1, 8, 2, 3, 1, 9, 2, 3, 1),
		"number 0": lay(3, 1, 0, 5, 9, 3), "number 3": lay(3, 1, 3, 5, 9, 3), "not rising": lay(3, 2, 2, 5, 9, 3, 1, 5, 9, 3), "twice": lay(3, 2, 2, 5, 9, 3, 2, 5, 9, 3),
		"empty": lay(3, 1, 1, 5, 5, 3), "backwards": lay(3, 1, 1, 9, 5, 3), "below 0": lay(3, 1, 1, -1, 5, 3), "to never": lay(3, 1, 1, 5, int64(never), 3), "width 0": lay(3, 1, 1, 5, 9, 0), "width 65": lay(3, 1, 1, 5, 9, 65),
		"cut": want[1 : len(want)-1], "a long form": append([]byte{0x86, 0}, want[2:]...),
	} {
		if got, n, bad := Read(b); bad != api.ErrForm || got != nil || n != 0 {
			t.Error(name, n, bad)
		}
	}
}

func TestNoneBelow(t *testing.T) { // P18.5
	k := uint32(9)
	next := func(n int) int { k = k*1664525 + 1013904223; return int(k>>8) % n }
	for range 300 {
		free := usage.Flat(next(6))
		free.Add(tick.Of(api.Time(next(20)), api.Time(next(9))), -next(8))
		l := New()
		for range 20 {
			at := tick.Of(api.Time(next(25)), api.Time(next(9)))
			left := free.Clone()
			Lower(left, l.All()...)
			fits := fit.Fits(left, at, 2)
			if _, bad := l.Add(free, at, 2); fits && bad == api.ErrState || !fits && bad == api.OK {
				t.Fatal(at, bad)
			}
			if next(5) == 0 {
				l.Drop(next(l.Next() + 1))
			}
		}
		left := free.Clone()
		Lower(left, l.All()...)
		for at := api.Time(0); at < 40; at++ {
			if left.At(at) < 0 && left.At(at) != free.At(at) {
				t.Fatal(at, left.List(), free.List())
			}
		}
	}
}
