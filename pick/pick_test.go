package pick

import (
	"math"
	"slices"
	"testing"

	"berthing/bits"
)

func TestChoose(t *testing.T) { // P20.1
	six := bits.First(6)
	for _, c := range []struct {
		may    bits.Set
		width  int
		prefer []bits.Set
		want   bits.Set
		ok     bool
	}{
		{six, 3, []bits.Set{bits.Of(4), bits.Of(1, 2)}, bits.Of(1, 2, 4), true}, {six, 2, []bits.Set{bits.Of(4), bits.Of(1, 2)}, bits.Of(1, 4), true}, {six, 5, []bits.Set{bits.Of(4), bits.Of(1, 2)}, bits.Of(0, 1, 2, 3, 4), true},
		{six, 3, nil, bits.Of(0, 1, 2), true}, {six, 6, nil, six, true}, {six, 7, nil, 0, false}, {six, 0, []bits.Set{six}, 0, true}, {six, -1, nil, 0, false}, {six, math.MinInt, nil, 0, false}, {six, math.MaxInt, nil, 0, false},
		{0, 0, nil, 0, true}, {0, 1, nil, 0, false}, {six, 2, []bits.Set{bits.Of(9, 10)}, bits.Of(0, 1), true}, {bits.First(64), 64, []bits.Set{bits.Of(63), bits.Of(63)}, bits.First(64), true}, {bits.First(64), 1, []bits.Set{0, bits.Of(63)}, bits.Of(63), true},
		{six, 2, []bits.Set{bits.Of(4, 5), bits.Of(4, 5)}, bits.Of(4, 5), true},
	} {
		prefer := slices.Clone(c.prefer)
		if got, ok := Choose(c.may, c.width, prefer...); got != c.want || ok != c.ok || !slices.Equal(prefer, c.prefer) {
			t.Error(c, got.Text(), ok)
		}
	}
}

func TestMayAndCost(t *testing.T) { // P20.2
	if May(bits.First(6), bits.Of(1, 9), bits.Of(2, 1)) != bits.Of(0, 3, 4, 5) || May(0, 1, 1) != 0 || May(math.MaxUint64, 0, 0) != math.MaxUint64 {
		t.Error("May")
	}
	if Cost(bits.First(6), bits.Of(1, 9)) != 5 || Cost(0, 7) != 0 || Cost(math.MaxUint64, 0) != 64 || Cost(7, 7) != 0 {
		t.Error("Cost")
	}
}

func TestNoneIsBetter(t *testing.T) { // P20.3
	for may := range bits.Set(64) {
		for good := range bits.Set(64) {
			for width := range 7 {
				got, ok := Choose(may, width, good)
				if !ok {
					continue
				}
				for other := range bits.Set(64) {
					if other.Less(may) == 0 && other.Len() == width && Cost(other, good) < Cost(got, good) {
						t.Fatal(may, good, width, got)
					}
				}
			}
		}
	}
}
