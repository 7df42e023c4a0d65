package tick

import (
	"math"
	"slices"
	"testing"

	"berthing/api"
)

const never = api.Never

var odd = []api.Time{math.MinInt64, -7, -1, 0, 1, 2, 3, 5, 8, 1 << 39, never - 1, never, never + 1, 1 << 62, math.MaxInt64}

func TestSums(t *testing.T) { // P1.1
	for _, c := range []struct {
		name      string
		got, want api.Time
	}{
		{"clamp low", Clamp(-5), 0}, {"clamp high", Clamp(never + 1), never}, {"clamp in", Clamp(7), 7},
		{"clamp least", Clamp(math.MinInt64), 0}, {"clamp greatest", Clamp(math.MaxInt64), never},
		{"add", Add(3, 4), 7}, {"add never", Add(3, never), never}, {"add never first", Add(never, 0), never},
		{"add over", Add(never-1, 2), never}, {"add up to", Add(never-2, 1), never - 1}, {"add low", Add(-4, 5), 5},
		{"add greatest", Add(math.MaxInt64, math.MaxInt64), never},
		{"sub", Sub(9, 4), 5}, {"sub below", Sub(4, 9), 0}, {"sub never", Sub(never, 5), never},
		{"sub nevers", Sub(never, never), 0}, {"sub of never", Sub(5, never), 0}, {"sub low", Sub(5, -5), 5},
		{"sub far", Sub(math.MaxInt64, math.MinInt64), never},
		{"times", Times(3, 4), 12}, {"times none", Times(3, 0), 0}, {"times below", Times(never, -1), 0},
		{"times never", Times(never, 1), never}, {"times of nothing", Times(0, math.MaxInt), 0},
		{"times up to", Times(1<<39, 2), never}, {"times over", Times(1<<39, 3), never},
		{"times far", Times(3, math.MaxInt), never}, {"times near", Times(1<<20-1, 1<<20), (1<<20 - 1) << 20},
		{"times low", Times(-3, 4), 0}, {"times just in", Times(3, 366503875925), never - 1}, {"times just over", Times(3, 366503875926), never},
		{"up", Up(7, 5), 10}, {"up at one", Up(10, 5), 10}, {"up by none", Up(7, 0), 7}, {"up by less", Up(7, -3), 7},
		{"up far", Up(7, 1<<62), never}, {"up of 0", Up(0, 1<<62), 0}, {"up of never", Up(never, 7), never},
		{"up beyond", Up(never-1, 2), never}, {"up low", Up(-9, 4), 0}, {"up greatest", Up(math.MaxInt64, math.MaxInt64), never},
	} {
		if c.got != c.want {
			t.Errorf("%s: %d, not %d", c.name, c.got, c.want)
		}
	}
}

func TestSpans(t *testing.T) { // P1.2
	right := []Span{{0, 0}, {3, 8}, {never, never}, {0, never}}
	wrong := []Span{{-1, 3}, {3, never + 1}, {8, 3}, {never + 1, never + 1}}
	for _, s := range right {
		if !s.Right() {
			t.Error("not right", s)
		}
	}
	for _, s := range wrong {
		if s.Right() {
			t.Error("right", s)
		}
	}
	s := Span{3, 8}
	if s.Empty() || !(Span{8, 8}).Empty() || !(Span{9, 2}).Empty() || !(Span{-5, 0}).Empty() || !(Span{never, never + 9}).Empty() || (Span{-5, 1}).Empty() {
		t.Error("Empty")
	}
	if !s.Holds(3) || s.Holds(2) || !s.Holds(7) || s.Holds(8) || !(Span{-4, 1}).Holds(-9) || (Span{0, never}).Holds(never) {
		t.Error("Holds")
	}
	if !s.Meets(Span{7, 9}) || s.Meets(Span{8, 9}) || s.Meets(Span{0, 3}) || s.Meets(Span{5, 5}) || !(Span{-3, 1}).Meets(Span{0, 1}) {
		t.Error("Meets")
	}
	if s.Len() != 5 || (Span{8, 3}).Len() != 0 || (Span{2, never}).Len() != never || (Span{2, never + 5}).Len() != never || (Span{-2, 4}).Len() != 4 || (Span{never, never}).Len() != 0 {
		t.Error("Len")
	}
	if s.Cut(Span{6, 20}) != (Span{6, 8}) || s.Cut(Span{8, 9}) != (Span{}) || (Span{-3, never + 3}).Cut(Span{-9, never + 9}) != (Span{0, never}) || (Span{5, 3}).Cut(Span{0, 9}) != (Span{}) {
		t.Error("Cut")
	}
	if Of(5, 3) != (Span{5, 8}) || Of(-1, never) != (Span{0, never}) || Of(4, -2) != (Span{4, 4}) || Of(never+1, 1) != (Span{never, never}) || Of(never-1, 5) != (Span{never - 1, never}) {
		t.Error("Of")
	}
}

func TestSpansAgree(t *testing.T) { // P1.2: each call against what Holds tells, at every place where it may change
	for _, a := range odd {
		for _, b := range odd {
			s := Span{a, b}
			none := true
			for _, at := range odd {
				none = none && !s.Holds(at)
			}
			if s.Empty() && !none || s.Empty() != (s.Len() == 0) {
				t.Fatal(s, "Empty, Holds, Len")
			}
			for _, c := range odd {
				o := Span{c, 8}
				for _, at := range odd {
					if s.Cut(o).Holds(at) != (s.Holds(at) && o.Holds(at)) {
						t.Fatal(s, o, at, "Cut")
					}
				}
				if s.Meets(o) != !s.Cut(o).Empty() || s.Meets(o) != o.Meets(s) {
					t.Fatal(s, o, "Meets")
				}
			}
		}
	}
}

func TestJoin(t *testing.T) { // P1.3
	for _, c := range []struct{ in, want []Span }{
		{nil, nil},
		{[]Span{{5, 7}, {1, 3}, {3, 4}}, []Span{{1, 4}, {5, 7}}},
		{[]Span{{9, 9}, {4, 6}, {0, 2}, {1, 4}, {8, 9}}, []Span{{0, 6}, {8, 9}}},
		{[]Span{{0, 20}, {3, 4}, {5, 9}}, []Span{{0, 20}}},
		{[]Span{{-5, 2}, {never - 1, never + 7}}, []Span{{0, 2}, {never - 1, never}}},
		{[]Span{{7, 3}, {-9, -2}, {never, never + 1}}, nil},
	} {
		in := slices.Clone(c.in)
		if got := Join(in...); !slices.Equal(got, c.want) {
			t.Error(c.in, got)
		}
		if !slices.Equal(in, c.in) {
			t.Error("what came in was changed")
		}
	}
}

func TestJoinAgrees(t *testing.T) { // P1.3: just the times of one of them, for all sets of three short spans
	for k := 0; k < 6*6*6*6*6*6; k++ {
		var l []Span
		for r := k; len(l) < 3; r /= 36 {
			l = append(l, Span{api.Time(r % 6), api.Time(r / 6 % 6)})
		}
		got := Join(l...)
		for i, s := range got {
			if !s.Right() || s.Empty() || i > 0 && s.From <= got[i-1].To {
				t.Fatal(l, got)
			}
		}
		for at := api.Time(0); at < 7; at++ {
			holds := func(s Span) bool { return s.Holds(at) }
			if slices.ContainsFunc(l, holds) != slices.ContainsFunc(got, holds) {
				t.Fatal(l, got, at)
			}
		}
	}
}
