package share

import (
	"math"
	"slices"
	"testing"

	"berthing/api"
)

const never = api.Never

func TestAt(t *testing.T) { // P12.1
	for _, c := range []struct {
		s         Share
		now, half api.Time
		want      Share
	}{
		{Share{100, 0}, 25, 10, Share{25, 20}}, {Share{100, 0}, 9, 10, Share{100, 0}}, {Share{100, 0}, 10, 10, Share{50, 10}}, {Share{7, 3}, 33, 10, Share{0, 33}},
		{Share{7, 3}, 23, 10, Share{1, 23}}, {Share{7, 3}, 2, 10, Share{7, 3}}, {Share{7, 3}, 3, 10, Share{7, 3}}, {Share{100, 0}, 1 << 39, 0, Share{100, 0}}, {Share{100, 0}, 1 << 39, -4, Share{100, 0}},
		{Share{-5, -5}, 4, 10, Share{0, 0}}, {Share{math.MaxInt64, never + 4}, 4, 10, Share{1 << 50, never}}, {Share{1 << 51, 0}, 1, 1, Share{1 << 49, 1}},
		{Share{1 << 50, 0}, never, 1, Share{0, never}}, {Share{1 << 50, 0}, 51, 1, Share{0, 51}}, {Share{1 << 50, 0}, 50, 1, Share{1, 50}}, {Share{9, 5}, math.MaxInt64, math.MaxInt64, Share{9, 5}},
		{Share{9, 5}, never, 1 << 39, Share{4, 1<<39 + 5}}, {Share{math.MinInt64, math.MinInt64}, math.MinInt64, math.MinInt64, Share{}},
	} {
		if got := c.s.At(c.now, c.half); got != c.want {
			t.Error(c, got)
		}
	}
}

func TestCharge(t *testing.T) { // P12.1
	for _, c := range []struct {
		s         Share
		now, half api.Time
		used      int64
		want      Share
	}{
		{Share{}, 5, 10, 3, Share{3, 5}}, {Share{0, 8}, 5, 10, 3, Share{3, 8}}, {Share{0, 2}, 5, 10, 0, Share{0, 5}}, {Share{1, 2}, 5, 10, 3, Share{4, 2}},
		{Share{0, 0}, 25, 10, 3, Share{3, 20}}, {Share{100, 0}, 25, 10, 3, Share{28, 20}}, {Share{1, 0}, 12, 10, 3, Share{3, 10}}, {Share{5, 0}, 3, 10, -4, Share{5, 0}},
		{Share{5, 0}, 3, 10, math.MaxInt64, Share{1 << 50, 0}}, {Share{math.MaxInt64, 0}, 3, 10, 1, Share{1 << 50, 0}}, {Share{-7, 3}, never + 9, 0, math.MinInt64, Share{0, never}}, {Share{-7, -7}, -3, 4, 2, Share{2, 0}},
	} {
		if got := c.s.Charge(c.now, c.half, c.used); got != c.want {
			t.Error(c, got)
		}
	}
}

func TestFactor(t *testing.T) { // P12.2
	for _, c := range []struct {
		used, total int64
		want        int
	}{
		{0, 0, 1000}, {5, 0, 1000}, {5, -1, 1000}, {0, 5, 1000}, {-5, 5, 1000}, {5, 5, 0}, {6, 5, 0}, {1, 1, 0}, {5, 1, 0}, {1, 3, 667}, {2, 3, 334}, {1, 1001, 1000}, {1, 1000, 999}, {999, 1000, 1},
		{1 << 62, math.MaxInt64, 500}, {math.MaxInt64 - 1, math.MaxInt64, 1}, {math.MaxInt64, math.MaxInt64, 0}, {math.MinInt64, math.MaxInt64, 1000}, {1, math.MinInt64, 1000},
	} {
		if got := Factor(c.used, c.total); got != c.want {
			t.Error(c, got)
		}
	}
}

func TestTotal(t *testing.T) { // P12.3
	l := []Share{{100, 0}, {7, 20}, {-4, 9}, {1, 0}}
	if got := Total(l, 25, 10); got != 32 {
		t.Error(got)
	}
	if got := Decay(l, 25, 10); !slices.Equal(got, []Share{{25, 20}, {7, 20}, {0, 19}, {0, 20}}) {
		t.Error(got)
	}
	if l[0] != (Share{100, 0}) || Total(nil, 5, 5) != 0 || len(Decay(nil, 5, 5)) != 0 {
		t.Error("what came in was changed")
	}
	if Total([]Share{{math.MaxInt64, 0}, {math.MaxInt64, 0}, {-1, 0}}, 0, 1) != 1<<50 {
		t.Error("all together")
	}
}

func TestLooks(t *testing.T) { // P12.4
	times := []api.Time{0, 1, 4, 9, 10, 11, 20, 57, 1 << 39, never - 3, never - 1, never}
	for _, s := range []Share{{1000, 0}, {1 << 50, 3}, {5, 12}, {0, 7}, {77, never - 2}} {
		for _, half := range []api.Time{1, 3, 10, 1 << 38, never - 1, never} {
			for i, a := range times {
				for _, b := range times[i:] {
					if s.At(a, half).At(b, half) != s.At(b, half) || s.At(b, half).Used > s.At(a, half).Used {
						t.Error(s, half, a, b, s.At(a, half), s.At(b, half))
					}
				}
			}
		}
	}
}
