package prio

import (
	"math"
	"slices"
	"testing"

	"berthing/api"
)

func TestRight(t *testing.T) { // P13.1
	for w, want := range map[Weights]bool{
		{}: true, {1000, 1000, 1000, 1000}: true, {1001, 0, 0, 0}: false, {0, 1001, 0, 0}: false, {0, 0, 1001, 0}: false, {0, 0, 0, 1001}: false,
		{-1, 0, 0, 0}: false, {0, -1, 0, 0}: false, {0, 0, -1, 0}: false, {0, 0, 0, -1}: false, {math.MaxInt, math.MinInt, 0, 0}: false,
	} {
		if w.Right() != want {
			t.Error(w)
		}
	}
}

func TestOf(t *testing.T) { // P13.1
	for _, c := range []struct {
		w    Weights
		f    Facts
		want int
	}{
		{Weights{Age: 2}, Facts{Waits: 40}, 4}, {Weights{Age: 2}, Facts{Waits: 15}, 0}, {Weights{Age: 2}, Facts{Waits: 16}, 2}, {Weights{Age: 3}, Facts{Waits: 16 * 1000}, 3000},
		{Weights{Age: 3}, Facts{Waits: 16*1001 + 5}, 3000}, {Weights{Age: 3}, Facts{Waits: math.MaxInt64}, 3000}, {Weights{Age: 3}, Facts{Waits: -100}, 0},
		{Weights{Width: 5}, Facts{Width: 7}, 35}, {Weights{Width: 5}, Facts{Width: 65}, 320}, {Weights{Width: 5}, Facts{Width: -1}, 0}, {Weights{Width: 5}, Facts{Width: math.MaxInt}, 320},
		{Weights{Share: 2}, Facts{Factor: 999}, 1998}, {Weights{Share: 2}, Facts{Factor: 1001}, 2000}, {Weights{Share: 2}, Facts{Factor: math.MinInt}, 0},
		{Weights{Nice: 3}, Facts{Nice: 7}, -21}, {Weights{Nice: 3}, Facts{Nice: -7}, 21}, {Weights{Nice: 3}, Facts{Nice: 101}, -300}, {Weights{Nice: 3}, Facts{Nice: math.MinInt}, 300},
		{Weights{1, 2, 3, 4}, Facts{32, 5, 6, 7}, 2 + 10 + 18 - 28}, {Weights{1, 2, 3, 1001}, Facts{32, 5, 6, 7}, 0}, {Weights{-1, 2, 3, 4}, Facts{32, 5, 6, 7}, 0},
	} {
		if got := c.w.Of(c.f); got != c.want {
			t.Error(c, got)
		}
	}
}

func TestSort(t *testing.T) { // P13.2
	if !Less(Item{2, 5}, Item{1, 4}) || Less(Item{1, 4}, Item{2, 5}) || !Less(Item{1, 4}, Item{2, 4}) || Less(Item{2, 4}, Item{1, 4}) || Less(Item{1, 4}, Item{1, 4}) || !Less(Item{0, math.MaxInt}, Item{0, math.MinInt}) {
		t.Error("Less")
	}
	l := []Item{{3, 1}, {1, 1}, {2, 9}, {1, 1}, {4, -5}, {math.MinInt, 9}}
	was := slices.Clone(l)
	want := []Item{{math.MinInt, 9}, {2, 9}, {1, 1}, {1, 1}, {3, 1}, {4, -5}}
	if got := Sort(l); !slices.Equal(got, want) || !slices.Equal(l, was) {
		t.Error(got)
	}
	if len(Sort(nil)) != 0 {
		t.Error("of none")
	}
}

func TestGrows(t *testing.T) { // P13.3
	w := Weights{7, 2, 3, 1}
	last := math.MinInt
	for waits := api.Time(0); waits < 20000; waits += 3 {
		p := w.Of(Facts{Waits: waits, Width: 4, Nice: -3})
		if p < last {
			t.Fatal(waits)
		}
		last = p
	}
	var l []Item
	for i := range 300 {
		l = append(l, Item{i * 7 % 13, i * 5 % 11})
	}
	sorted := Sort(l)
	if !slices.IsSortedFunc(sorted, func(a, b Item) int {
		if Less(b, a) {
			return 1
		}
		return 0
	}) {
		t.Error("not sorted")
	}
	count := map[Item]int{}
	for i := range l {
		count[l[i]]++
		count[sorted[i]]--
	}
	for it, n := range count {
		if n != 0 {
			t.Error("other items", it, n)
		}
	}
}
