package bits

import (
	"math"
	"slices"
	"testing"
)

var sets = []Set{0, 1, 2, 3, 0b101110, 1 << 63, 1<<63 | 1, 0xff00ff, math.MaxUint64, math.MaxUint64 - 1, 0x5555555555555555, 0xf0f0}

func TestNodes(t *testing.T) { // P7.1
	if Of() != 0 || Of(0, 3, 3, 63) != 1|8|1<<63 || Of(-1, 64, math.MinInt, math.MaxInt) != 0 {
		t.Error("Of")
	}
	for n, want := range map[int]Set{-1: 0, math.MinInt: 0, 0: 0, 1: 1, 5: 31, 63: math.MaxUint64 >> 1, 64: math.MaxUint64, 65: math.MaxUint64, math.MaxInt: math.MaxUint64} {
		if First(n) != want {
			t.Error("First", n, First(n))
		}
	}
	for _, s := range sets {
		for n := -2; n < 67; n++ {
			in := n >= 0 && n < 64
			if s.Has(n) != (in && s>>n&1 == 1) {
				t.Error("Has", s, n)
			}
			if s.With(n).Has(n) != in || s.Without(n).Has(n) || !in && (s.With(n) != s || s.Without(n) != s) {
				t.Error("With", s, n)
			}
			if in && (s.With(n)|s != s|1<<n || s.With(n)&s != s || s.Without(n)|1<<n != s|1<<n) {
				t.Error("another node", s, n)
			}
		}
		many := 0
		for n := range 64 {
			if s.Has(n) {
				many++
			}
		}
		if s.Len() != many || s.Has(math.MinInt) || s.Has(math.MaxInt) {
			t.Error("Len", s, s.Len())
		}
	}
}

func TestTogether(t *testing.T) { // P7.2
	for _, a := range sets {
		for _, b := range sets {
			if a.And(b) != a&b || a.Or(b) != a|b || a.Less(b) != a&^b || Any(a, b, 4) != a|b|4 {
				t.Error(a, b)
			}
		}
	}
	if Any() != 0 || Any(3) != 3 {
		t.Error("Any")
	}
}

func TestOrder(t *testing.T) { // P7.3
	for _, s := range sets {
		var l []int
		for n := range 64 {
			if s.Has(n) {
				l = append(l, n)
			}
		}
		if !slices.Equal(slices.Collect(s.All()), l) {
			t.Error("All", s)
		}
		low := -1
		if len(l) > 0 {
			low = l[0]
		}
		if s.Lowest() != low {
			t.Error("Lowest", s, s.Lowest())
		}
		for n := -2; n < 67; n++ {
			got, ok := s.Take(n)
			if ok != (n <= len(l)) || ok && got != Of(l[:max(n, 0)]...) || !ok && got != 0 {
				t.Error("Take", s, n, got, ok)
			}
		}
		for range s.All() {
			break
		}
	}
	if got, ok := Set(7).Take(math.MinInt); got != 0 || !ok {
		t.Error("Take of none")
	}
}

func TestText(t *testing.T) { // P7.3
	for want, s := range map[string]Set{
		"none": 0, "0": 1, "63": 1 << 63, "1-3,5": Of(1, 2, 3, 5), "1,2": Of(1, 2), "0,2,4": Of(0, 2, 4), "0-63": First(64),
		"0,1,3-5,61,62": Of(0, 1, 3, 4, 5, 61, 62), "10,12-14,62,63": Of(10, 12, 13, 14, 62, 63), "61-63": Of(61, 62, 63), "0-2": First(3),
	} {
		if s.Text() != want {
			t.Error(want, s.Text())
		}
	}
}
