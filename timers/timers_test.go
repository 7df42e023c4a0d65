package timers

import (
	"math"
	"slices"
	"sort"
	"testing"

	"berthing/api"
)

const never = api.Never

func TestNew(t *testing.T) { // P17.1
	c := New()
	if c.Len() != 0 || c.Next() != never || len(c.Due(never)) != 0 {
		t.Error("New")
	}
	c.Set(1, 5)
	c.Set(2, 3)
	other := c.Clone()
	c.Set(1, 9)
	c.Drop(2)
	if c.Len() != 1 || other.Len() != 2 || !slices.Equal(other.Due(5), []Alarm{{3, 2}, {5, 1}}) || !slices.Equal(c.Due(99), []Alarm{{9, 1}}) {
		t.Error("Clone")
	}
	for _, none := range []*Clock{nil, {}} {
		at, ok := none.At(1)
		if none.Set(1, -1) != api.ErrNil || none.Drop(1) || at != 0 || ok || none.Next() != never || len(none.Due(never)) != 0 || none.Len() != 0 || none.Clone() != nil {
			t.Error("of none")
		}
	}
}

func TestSet(t *testing.T) { // P17.2
	c := New()
	for _, at := range []api.Time{-1, never, never + 1, math.MinInt64, math.MaxInt64} {
		if c.Set(1, at) != api.ErrLate || c.Len() != 0 {
			t.Error(at)
		}
	}
	for _, id := range []int{0, -7, math.MinInt, math.MaxInt} {
		if c.Set(id, 0) != api.OK || c.Set(id, never-1) != api.OK {
			t.Error(id)
		}
		if at, ok := c.At(id); at != never-1 || !ok {
			t.Error(id, at, ok)
		}
	}
	if at, ok := c.At(5); at != 0 || ok || c.Drop(5) || !c.Drop(-7) || c.Drop(-7) || c.Len() != 3 {
		t.Error("Drop")
	}
	for id := 1; c.Len() < 4096; id++ {
		c.Set(id, api.Time(id))
	}
	if c.Set(-1, 3) != api.ErrFull || c.Set(-1, -3) != api.ErrLate || c.Set(1, 8) != api.OK || c.Len() != 4096 {
		t.Error("ErrFull")
	}
	if at, _ := c.At(1); at != 8 {
		t.Error(at)
	}
	if !c.Drop(1) || c.Set(-1, 3) != api.OK {
		t.Error("behind Drop")
	}
}

func TestDue(t *testing.T) { // P17.3
	c := New()
	c.Set(1, 5)
	c.Set(2, 3)
	c.Set(1, 2)
	c.Set(9, 3)
	c.Set(-4, 3)
	c.Set(3, 6)
	if c.Next() != 2 || len(c.Due(1)) != 0 || len(c.Due(math.MinInt64)) != 0 {
		t.Error("Next")
	}
	if l := c.Due(4); !slices.Equal(l, []Alarm{{2, 1}, {3, -4}, {3, 2}, {3, 9}}) || c.Len() != 1 || c.Next() != 6 {
		t.Error(l)
	}
	if l := c.Due(4); len(l) != 0 {
		t.Error("told twice", l)
	}
	if l := c.Due(math.MaxInt64); !slices.Equal(l, []Alarm{{6, 3}}) || c.Len() != 0 {
		t.Error(l)
	}
}

func TestAgainstMap(t *testing.T) { // P17.4: each name once, by the time that was set last
	c, m := New(), map[int]api.Time{}
	k := uint32(5)
	next := func(n uint32) int { k = k*1664525 + 1013904223; return int((k >> 8) % n) }
	for i := range 20000 {
		id, at := next(50), api.Time(i/10+next(60))
		switch next(5) {
		case 0:
			_, known := m[id]
			if c.Drop(id) != known {
				t.Fatal("Drop")
			}
			delete(m, id)
		case 1:
			var want []Alarm
			for id, when := range m {
				if when <= api.Time(i/10) {
					want = append(want, Alarm{when, id})
				}
			}
			sort.Slice(want, func(a, b int) bool {
				return want[a].At < want[b].At || want[a].At == want[b].At && want[a].Id < want[b].Id
			})
			for _, a := range want {
				delete(m, a.Id)
			}
			if got := c.Due(api.Time(i / 10)); !slices.Equal(got, want) {
				t.Fatal(got, want)
			}
		default:
			c.Set(id, at)
			m[id] = at
		}
		at, ok := c.At(id)
		when, known := m[id]
		if c.Len() != len(m) || at != when || ok != known {
			t.Fatal("At, Len")
		}
	}
}
