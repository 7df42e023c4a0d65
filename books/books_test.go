package books

import (
	"bytes"
	"math"
	"testing"

	"berthing/api"
	"berthing/coding"
	"berthing/share"
)

const never = api.Never

func books(t *testing.T, half api.Time) *Books {
	t.Helper()
	b, bad := New(half)
	if bad != api.OK {
		t.Fatal(bad)
	}
	return b
}

func line(t *testing.T, b *Books, user int) Line {
	t.Helper()
	l, ok := b.Line(user)
	if !ok {
		t.Fatal("no line", user)
	}
	return l
}

func lay(l ...int64) []byte {
	var b []byte
	for _, v := range l {
		b = coding.PutInt(b, v)
	}
	return b
}

func TestNew(t *testing.T) { // P14.1
	for _, half := range []api.Time{0, -1, never + 1, math.MinInt64, math.MaxInt64} {
		if b, bad := New(half); bad != api.ErrArg || b != nil {
			t.Error(half)
		}
	}
	for _, half := range []api.Time{1, 100, never} {
		if b := books(t, half); b.Half() != half || len(b.Lines()) != 0 {
			t.Error(half)
		}
	}
	b := books(t, 10)
	b.Note(3, Started)
	c := b.Clone()
	b.Note(3, Started)
	b.Note(4, Started)
	if line(t, c, 3).Count[Started] != 1 || len(c.Lines()) != 1 || c.Half() != 10 {
		t.Error("Clone")
	}
}

func TestNone(t *testing.T) { // P14.1 to P14.4
	for _, b := range []*Books{nil, {}} {
		l, ok := b.Line(1)
		if b.Clone() != nil || b.Note(99, 99) != api.ErrNil || b.Charge(99, 0, -1, 0) != api.ErrNil || ok || l != (Line{}) || len(b.Lines()) != 0 || b.Factor(1, 5) != 1000 || b.Half() != 0 || len(b.Put()) != 0 {
			t.Error("of none")
		}
	}
}

func TestNote(t *testing.T) { // P14.2
	if [...]int{Submitted, Started, Finished, Killed, Cancelled} != [...]int{0, 1, 2, 3, 4} {
		t.Error("kinds")
	}
	b := books(t, 10)
	for _, c := range [][2]int{{0, 1}, {17, 1}, {-1, 1}, {1, -1}, {1, 5}, {math.MaxInt, math.MinInt}} {
		if b.Note(c[0], c[1]) != api.ErrArg {
			t.Error(c)
		}
	}
	if len(b.Lines()) != 0 {
		t.Error("an error changed something")
	}
	for what := range 5 {
		for range what + 1 {
			if b.Note(16, what) != api.OK {
				t.Error(what)
			}
		}
	}
	if line(t, b, 16) != (Line{User: 16, Count: [5]int{1, 2, 3, 4, 5}}) {
		t.Error(line(t, b, 16))
	}
	full, _ := Read(lay(10, 1, 2, 1<<30, 1<<30-1, 0, 0, 0, 0, 0, 0))
	full.Note(2, Submitted)
	full.Note(2, Started)
	full.Note(2, Started)
	if l := line(t, full, 2); l.Count != [5]int{1 << 30, 1 << 30, 0, 0, 0} {
		t.Error(l)
	}
}

func TestCharge(t *testing.T) { // P14.2
	b := books(t, 10)
	for _, c := range []struct{ user, nodes int }{{0, 1}, {17, 1}, {1, -1}, {1, 65}, {math.MinInt, math.MaxInt}} {
		if b.Charge(c.user, 3, c.nodes, 5) != api.ErrArg {
			t.Error(c)
		}
	}
	if len(b.Lines()) != 0 {
		t.Error("an error changed something")
	}
	b.Charge(1, 4, 3, 5)
	if line(t, b, 1) != (Line{User: 1, Ticks: 15, Share: share.Share{Used: 15, Since: 4}}) {
		t.Error(line(t, b, 1))
	}
	b.Charge(1, 14, 64, 1)
	if line(t, b, 1) != (Line{User: 1, Ticks: 79, Share: share.Share{Used: 71, Since: 14}}) {
		t.Error(line(t, b, 1))
	}
	b.Charge(2, 4, 0, 5)
	b.Charge(3, 4, 5, -5)
	if line(t, b, 2) != (Line{User: 2, Share: share.Share{Since: 4}}) || line(t, b, 3).Ticks != 0 {
		t.Error("of nothing")
	}
	b.Charge(4, 4, 1, never)
	b.Charge(5, 4, 64, 1<<34-1)
	b.Charge(5, 4, 64, 1<<34)
	if line(t, b, 4).Ticks != 1<<50 || line(t, b, 4).Share.Used != 1<<50 || line(t, b, 5).Ticks != 1<<50 {
		t.Error("Never")
	}
	b.Charge(4, 4, 1, 9)
	if line(t, b, 4).Ticks != 1<<50 {
		t.Error("beyond")
	}
}

func TestLines(t *testing.T) { // P14.3
	b := books(t, 10)
	for _, user := range []int{9, 2, 16, 5} {
		b.Note(user, Submitted)
	}
	l := b.Lines()
	if len(l) != 4 || l[0].User != 2 || l[1].User != 5 || l[2].User != 9 || l[3].User != 16 {
		t.Error(l)
	}
	l[0].Ticks = 8
	if line(t, b, 2).Ticks != 0 {
		t.Error("memory is shared")
	}
	if l, ok := b.Line(3); ok || l != (Line{}) {
		t.Error(l)
	}
	b.Charge(2, 0, 1, 100)
	b.Charge(5, 0, 3, 100)
	for _, c := range []struct {
		user int
		now  api.Time
		want int
	}{{2, 0, 750}, {5, 0, 250}, {9, 0, 1000}, {1, 0, 1000}, {-1, 0, 1000}, {99, 0, 1000}, {2, 10, 750}, {2, 60, 800}, {5, 90, 1000}, {2, never, 1000}, {2, math.MinInt64, 750}} {
		if got := b.Factor(c.user, c.now); got != c.want {
			t.Error(c, got)
		}
	}
	if len(b.Lines()) != 4 {
		t.Error("Factor made a line")
	}
}

func TestBytes(t *testing.T) { // P14.4
	b := books(t, 10)
	b.Note(3, Killed)
	b.Note(1, Cancelled)
	b.Charge(1, 4, 3, 5)
	want := lay(10, 2, 1, 0, 0, 0, 0, 1, 15, 15, 4, 3, 0, 0, 0, 1, 0, 0, 0, 0)
	if !bytes.Equal(b.Put(), want) {
		t.Errorf("% x", b.Put())
	}
	for name, good := range map[string][]byte{"some": want, "none": lay(1, 0), "the greatest": lay(int64(never), 1, 16, 1<<30, 1<<30, 1<<30, 1<<30, 1<<30, 1<<50, 1<<50, int64(never))} {
		if r, bad := Read(good); bad != api.OK || !bytes.Equal(r.Put(), good) {
			t.Error(name, bad)
		}
	}
	for name, b := range map[string][]byte{
		"nothing": nil, "no half-life": lay(0, 0), "too long a half-life": lay(int64(never)+1, 0), "lines below 0": lay(1, -1), "too many lines": lay(1, 17),
		"user 0": lay(1, 1, 0, 0, 0, 0, 0, 0, 0, 0, 0), "user 17": lay(1, 1, 17, 0, 0, 0, 0, 0, 0, 0, 0), "a count below 0": lay(1, 1, 2, -1, 0, 0, 0, 0, 0, 0, 0),
		"too great a count": lay(1, 1, 2, 0, 0, 0, 0, 1<<30+1, 0, 0, 0), "too many ticks": lay(1, 1, 2, 0, 0, 0, 0, 0, 1<<50+1, 0, 0), "ticks below 0": lay(1, 1, 2, 0, 0, 0, 0, 0, -1, 0, 0),
		"used too much": lay(1, 1, 2, 0, 0, 0, 0, 0, 0, 1<<50+1, 0), "since beyond": lay(1, 1, 2, 0, 0, 0, 0, 0, 0, 0, int64(never)+1), "since below 0": lay(1, 1, 2, 0, 0, 0, 0, 0, 0, 0, -1),
		"not rising": lay(1, 2, 3, 0, 0, 0, 0, 0, 0, 0, 0, 2, 0, 0, 0, 0, 0, 0, 0, 0), "twice": lay(1, 2, 3, 0, 0, 0, 0, 0, 0, 0, 0, 3, 0, 0, 0, 0, 0, 0, 0, 0),
		"a byte more": append(bytes.Clone(want), 0), "a byte is missing": want[:len(want)-1], "a long form": append([]byte{0x94, 0}, want[1:]...),
	} {
		if r, bad := Read(b); bad != api.ErrForm || r != nil {
			t.Error(name, bad)
		}
	}
}

func TestAlone(t *testing.T) { // P14.5
	a, b := books(t, 7), books(t, 7)
	for i := range 200 {
		user, now := i%16+1, api.Time(i)
		for _, c := range []*Books{a, b} {
			if c == a || user == 5 {
				c.Note(user, i%5)
				c.Charge(user, now, i%65, api.Time(i))
			}
		}
	}
	if line(t, a, 5) != line(t, b, 5) || len(b.Lines()) != 1 || len(a.Lines()) != 16 {
		t.Error(line(t, a, 5), line(t, b, 5))
	}
}
