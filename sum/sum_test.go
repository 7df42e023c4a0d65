package sum

import (
	"bytes"
	"hash/adler32"
	"math"
	"testing"
)

func texts() [][]byte {
	l := [][]byte{nil, []byte("a"), []byte("ab"), {0}, {0, 0, 0}, []byte("Wikipedia"), bytes.Repeat([]byte{255}, 70000)}
	for i := range 300 {
		l = append(l, bytes.Repeat([]byte{byte(i), byte(i * 7)}, i))
	}
	return l
}

func TestSum(t *testing.T) { // P3.1
	if Sum([]byte("a")) != 0x00620062 || Sum() != 1 || Sum(nil, nil) != 1 || Sum([]byte("Wikipedia")) != 0x11E60398 {
		t.Error("Sum")
	}
	if Begin() != (Running{1, 0}) || Begin().Take([]byte{3}) != (Running{4, 4}) || Begin().Take([]byte{3, 2}) != (Running{6, 10}) {
		t.Error("Take")
	}
	for _, b := range texts() {
		if Sum(b) != adler32.Checksum(b) || Begin().Take(b).Value() != Sum(b) || Sum(b[:len(b)/3], b[len(b)/3:]) != Sum(b) {
			t.Error("Sum of", len(b), "bytes")
		}
	}
}

func TestByHand(t *testing.T) { // P3.1
	if (Running{math.MaxUint32, math.MaxUint32}).Take([]byte{255}) != (Running{(math.MaxUint32 + 255) % 65521, (math.MaxUint32%65521 + (math.MaxUint32+255)%65521) % 65521}) {
		t.Error((Running{math.MaxUint32, math.MaxUint32}).Take([]byte{255}))
	}
	if (Running{65521, 65522}).Take([]byte{0}) != (Running{0, 1}) || (Running{70000, 70001}).Take(nil) != (Running{70000, 70001}) {
		t.Error("Take")
	}
	if (Running{5, 65536 + 2}).Value() != 2<<16+5 || (Running{65536 + 5, 2}).Value() != 3<<16+5 || (Running{math.MaxUint32, 0xffff}).Value() != 0xfffeffff {
		t.Error("Value")
	}
}

func TestBoth(t *testing.T) { // P3.2
	l := texts()
	for i, a := range l {
		b := l[(i*7+3)%len(l)]
		if Both(Sum(a), Sum(b), len(b)) != Sum(a, b) {
			t.Error(len(a), len(b))
		}
	}
	a := Sum([]byte("abc"))
	if Both(a, Sum(), 0) != a || Both(a, Sum(), -1) != a || Both(a, Sum(), math.MinInt) != a {
		t.Error("of no bytes")
	}
	long := math.MaxInt
	if Both(a, 1, long) != Both(a, 1, long%65521) || Both(a, 1, long) == Both(a, 1, long%65521-1) {
		t.Error("of many bytes")
	}
}

func TestTold(t *testing.T) { // P3.3
	b := []byte("what is kept")
	for i := range b {
		for x := range 256 {
			c := bytes.Clone(b)
			c[i] = byte(x)
			if (Sum(c) == Sum(b)) != (c[i] == b[i]) {
				t.Fatal(i, x)
			}
		}
		for j := range b {
			c := bytes.Clone(b)
			c[i], c[j] = c[j], c[i]
			if (Sum(c) == Sum(b)) != (b[i] == b[j]) {
				t.Fatal(i, j)
			}
		}
	}
}
