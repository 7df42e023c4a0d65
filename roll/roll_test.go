package roll

import (
	"bytes"
	"math"
	"testing"

	"berthing/api"
	"berthing/bits"
	"berthing/coding"
	"berthing/tick"
	"berthing/usage"
)

const never = api.Never

func TestStart(t *testing.T) { // P21.1
	free := usage.Flat(3)
	free.Add(tick.Span{From: 5, To: 9}, -2)
	free.Add(tick.Span{From: 20, To: never}, -1)
	for _, c := range []struct {
		now   api.Time
		width int
		want  api.Time
	}{{0, 1, 0}, {0, 2, 9}, {6, 1, 6}, {30, 2, 30}, {0, 3, never}, {0, 0, never}, {0, -1, never}, {0, math.MinInt, never}, {-4, 2, 9}, {never, 1, never}, {math.MaxInt64, 1, never}} {
		if got := Start(free, c.now, c.width); got != c.want {
			t.Error(c, got)
		}
	}
	if Start(nil, 0, 1) != never {
		t.Error("of no levels")
	}
}

func TestRightOnOver(t *testing.T) { // P21.2
	good := Roll{2, 5, bits.Of(0, 3), bits.Of(1, 2)}
	for _, c := range []struct {
		r     Roll
		nodes int
		want  bool
	}{
		{good, 4, true}, {good, 64, true}, {good, 3, false}, {good, 65, false}, {good, -1, false}, {Roll{1, 0, 0, 0}, 0, true}, {Roll{64, never - 1, 0, math.MaxUint64}, 64, true}, {Roll{64, 0, math.MaxUint64, 0}, 64, true},
		{Roll{0, 5, 0, 0}, 4, false}, {Roll{65, 5, 0, 0}, 4, false}, {Roll{2, -1, 0, 0}, 4, false}, {Roll{2, never, 0, 0}, 4, false}, {Roll{2, 5, 3, 2}, 4, false}, {Roll{2, 5, 16, 0}, 4, false}, {Roll{2, 5, 0, 16}, 4, false}, {Roll{2, 5, 0, 7}, 4, false},
		{Roll{math.MinInt, math.MinInt64, 0, 0}, math.MinInt, false}, {Roll{}, 4, false},
	} {
		if c.r.Right(c.nodes) != c.want {
			t.Error(c)
		}
	}
	if good.On(4) || !good.On(5) || !good.On(never) || good.On(-1) || !(Roll{From: -7}).On(-7) || good.On(math.MinInt64) {
		t.Error("On")
	}
	all := Roll{Done: math.MaxUint64}
	for nodes, want := range map[int]bool{-1: true, 0: true, 1: true, 2: false, 4: false, 64: false, 99: false} {
		if good.Over(nodes) != want || !all.Over(nodes) {
			t.Error(nodes)
		}
	}
}

func TestNextHoldBack(t *testing.T) { // P21.3
	for _, c := range []struct {
		r    Roll
		now  api.Time
		idle bits.Set
		want bits.Set
	}{
		{Roll{2, 5, 0, 0}, 5, bits.Of(1, 2, 5), bits.Of(1, 2)}, {Roll{2, 5, 0, 0}, 4, bits.Of(1, 2, 5), 0}, {Roll{2, 5, bits.Of(1), 0}, 9, bits.Of(1, 2, 5), bits.Of(2, 5)}, {Roll{2, 5, 0, bits.Of(1)}, 9, bits.Of(1, 2, 5), bits.Of(2)},
		{Roll{2, 5, bits.Of(1), bits.Of(0, 3)}, 9, bits.Of(2, 5), 0}, {Roll{4, 5, bits.Of(0), bits.Of(3)}, 9, bits.Of(2), bits.Of(2)}, {Roll{1, 5, 0, 0}, 9, 0, 0}, {Roll{math.MinInt, 5, 0, 7}, 9, 8, 0}, {Roll{math.MaxInt, 5, 0, 0}, 9, math.MaxUint64, math.MaxUint64},
		{Roll{1, 5, 0, 7}, 9, 8, 0}, {Roll{0, 5, 0, 0}, 9, 8, 0},
	} {
		if got := c.r.Next(c.now, c.idle); got != c.want {
			t.Error(c, got.Text())
		}
	}
	r := Roll{2, 5, bits.Of(0), bits.Of(1)}
	if r.Hold(bits.Of(2)) != (Roll{2, 5, bits.Of(0), bits.Of(1, 2)}) || r.Back(1) != (Roll{2, 5, bits.Of(0, 1), 0}) || r.Hold(0) != r {
		t.Error("Hold, Back")
	}
	for _, n := range []int{0, 2, -1, 64, math.MinInt, math.MaxInt} {
		if r.Back(n) != r {
			t.Error(n)
		}
	}
}

func TestLowerAndBound(t *testing.T) { // P21.4
	free := usage.Flat(4)
	if (Roll{Width: 3, From: 7}).Lower(free) != api.OK || free.At(6) != 4 || free.At(7) != 1 || free.At(never) != 1 {
		t.Error(free.List())
	}
	(Roll{Width: math.MinInt, From: 9}).Lower(free)
	(Roll{Width: math.MaxInt, From: 11}).Lower(free)
	if free.At(9) != 1000000 || free.At(11) != -1000000 {
		t.Error(free.List())
	}
	if (Roll{}).Lower(nil) != api.ErrNil || (Roll{}).Lower(&usage.Steps{}) != api.ErrNil {
		t.Error("ErrNil")
	}
	r := Roll{From: 100}
	for _, c := range []struct {
		nodes, faults    int
		work, care, mend api.Time
		want             api.Time
	}{
		{4, 1, 10, 5, 3, 100 + 5*19}, {0, 0, 10, 5, 3, 100}, {-4, 2, 10, 5, 3, 138}, {2, math.MinInt, 0, 0, 0, 102}, {1 << 20, 1<<20 + 7, 0, 0, 0, 100 + 1<<21}, {math.MaxInt, math.MaxInt, -5, -5, -5, 100 + 1<<21},
		{1, 0, never, 0, 0, never}, {0, 0, never, 0, 0, 100}, {1 << 20, 1 << 20, 1 << 20, 0, 0, never}, {1, 1, math.MaxInt64, math.MaxInt64, math.MaxInt64, never},
	} {
		if got := r.Bound(c.nodes, c.faults, c.work, c.care, c.mend); got != c.want {
			t.Error(c, got)
		}
	}
}

func TestBytes(t *testing.T) { // P21.5
	r := Roll{2, 5, bits.Of(0, 63), bits.Of(1)}
	var want []byte
	for _, v := range []int64{2, 5, math.MinInt64 + 1, 2} {
		want = coding.PutInt(want, v)
	}
	if got := Put([]byte{9}, r); !bytes.Equal(got, append([]byte{9}, want...)) {
		t.Errorf("% x", got)
	}
	if got, n, bad := Read(append(bytes.Clone(want), 1, 2)); got != r || n != len(want) || bad != api.OK {
		t.Error(got, n, bad)
	}
	for name, b := range map[string][]byte{"nothing": nil, "cut": want[:len(want)-1], "wrong": Put(nil, Roll{0, 5, 0, 0}), "both": Put(nil, Roll{2, 5, 3, 1}), "a long form": append([]byte{0x84, 0}, want[1:]...)} {
		if got, n, bad := Read(b); got != (Roll{}) || n != 0 || bad != api.ErrForm {
			t.Error(name, got, n, bad)
		}
	}
}

func TestGoesRound(t *testing.T) { // P21.6
	for width := 1; width < 7; width++ {
		r := Roll{Width: width, From: 3}
		taken := bits.Set(0)
		turns := 0
		for now := api.Time(0); !r.Over(6); now++ {
			next := r.Next(now, bits.First(6))
			if next.And(taken) != 0 || now >= 3 && next == 0 {
				t.Fatal(width, now, next.Text())
			}
			taken = taken.Or(next)
			r = r.Hold(next)
			if !r.Right(6) {
				t.Fatal(r)
			}
			for n := range r.Held.All() {
				r = r.Back(n)
			}
			if now >= 3 {
				turns++
			}
		}
		if turns > 6 || r.Done != bits.First(6) || r.Next(99, bits.First(6)) != 0 {
			t.Error(width, turns)
		}
	}
}
