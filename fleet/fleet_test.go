package fleet

import (
	"bytes"
	"math"
	"testing"

	"berthing/api"
	"berthing/bits"
	"berthing/coding"
	"berthing/health"
)

var rules = health.Rules{Suspect: 1, Down: 2, Probation: 1}

func make4(t *testing.T, spares int) *Fleet {
	t.Helper()
	f, bad := New(4, spares, rules)
	if bad != api.OK {
		t.Fatal(bad)
	}
	return f
}

func lay(l ...int64) []byte {
	var b []byte
	for _, v := range l {
		b = coding.PutInt(b, v)
	}
	return b
}

func TestNew(t *testing.T) { // P9.1
	for _, c := range []struct {
		nodes, spares int
		r             health.Rules
		bad           api.Errno
	}{
		{1, 0, rules, api.OK}, {64, 63, rules, api.OK}, {0, 0, rules, api.ErrArg}, {65, 0, rules, api.ErrArg}, {-1, -2, rules, api.ErrArg},
		{4, 4, rules, api.ErrArg}, {4, -1, rules, api.ErrArg}, {4, 1, health.Rules{}, api.ErrArg}, {math.MaxInt, math.MinInt, rules, api.ErrArg},
	} {
		f, bad := New(c.nodes, c.spares, c.r)
		if bad != c.bad || (f == nil) != (bad != api.OK) {
			t.Error(c, bad)
		}
		if f != nil && (f.Len() != c.nodes || f.Up() != bits.First(c.nodes) || f.Spares() != f.Up().Less(bits.First(c.nodes-c.spares)) || f.Swaps() != 0 || f.Rules() != c.r) {
			t.Error(c)
		}
	}
	f := make4(t, 1)
	c := f.Clone()
	f.Tell(0, health.Miss)
	if c.Spares() != bits.Of(3) || c.Up() != bits.First(4) || !Same(f.Clone(), f) || Same(c, f) {
		t.Error("Clone")
	}
}

func TestNone(t *testing.T) { // P9.1 to P9.4
	for _, f := range []*Fleet{nil, {}} {
		n, bad := f.Node(9)
		if f.Clone() != nil || f.Tell(9, 9) != api.ErrNil || bad != api.ErrNil || n != (health.Node{}) || f.Len() != 0 || f.Rules() != (health.Rules{}) {
			t.Error("of none")
		}
		if f.In(0) != 0 || f.Up() != 0 || f.Spares() != 0 || f.Active() != 0 || f.Swaps() != 0 || len(f.Put()) != 0 || !Same(f, nil) || !Same(&Fleet{}, f) {
			t.Error("of none")
		}
		if made := make4(t, 0); Same(f, made) || Same(made, f) {
			t.Error("Same")
		}
	}
}

func TestTell(t *testing.T) { // P9.2
	f := make4(t, 1)
	for _, n := range []int{-1, 4, math.MinInt, math.MaxInt} {
		if _, bad := f.Node(n); f.Tell(n, 9) != api.ErrNone || bad != api.ErrNone {
			t.Error(n)
		}
	}
	for _, what := range []int{-1, 5, math.MinInt, math.MaxInt} {
		if f.Tell(0, what) != api.ErrArg {
			t.Error(what)
		}
	}
	if !Same(f, make4(t, 1)) {
		t.Error("errors changed something")
	}
	f.Tell(0, health.Miss)
	if n, bad := f.Node(0); bad != api.OK || n != (health.Node{State: health.Suspect, Misses: 1}) {
		t.Error(n, bad)
	}
	if f.Active() != bits.Of(1, 2, 3) || f.Spares() != bits.Of(0) || f.Swaps() != 1 {
		t.Error("not swapped", f.Active())
	}
	f.Tell(0, health.Beat)
	if f.Active() != bits.Of(1, 2, 3) || f.Swaps() != 1 {
		t.Error("swapped back")
	}
	f.Tell(2, health.Take)
	if f.Active() != bits.Of(0, 1, 3) || f.Spares() != bits.Of(2) || f.Swaps() != 2 {
		t.Error("Take", f.Active())
	}
	f.Tell(3, health.Miss)
	f.Tell(0, health.Miss)
	if f.Active() != bits.Of(0, 1, 3) || f.Swaps() != 2 {
		t.Error("swapped without a spare", f.Active())
	}
	f.Tell(2, health.Ready)
	f.Tell(2, health.Beat)
	if f.Active() != bits.Of(1, 2, 3) || f.Spares() != bits.Of(0) || f.Swaps() != 3 {
		t.Error("the least node is swapped", f.Active())
	}
}

func TestSets(t *testing.T) { // P9.3
	f := make4(t, 2)
	f.Tell(0, health.Miss)
	f.Tell(1, health.Miss)
	f.Tell(1, health.Miss)
	f.Tell(3, health.Take)
	f.Tell(3, health.Ready)
	for state, want := range map[int]bits.Set{health.Up: 4, health.Suspect: 1, health.Down: 2, health.Repair: 8, health.Drain: 0, -1: 0, 5: 0, math.MaxInt: 0} {
		if f.In(state) != want {
			t.Error(state, f.In(state))
		}
	}
	if f.Up() != 4 || f.Spares().Or(f.Active()) != bits.First(4) || f.Spares().Len() != 2 {
		t.Error("roles")
	}
}

func TestBytes(t *testing.T) { // P9.4
	f := make4(t, 1)
	f.Tell(0, health.Miss)
	want := lay(4, 1, 2, 1, 1, 1, 1, 1, 0, 0, 0, 0, 0, 0, 0, 0, 0, 0)
	if !bytes.Equal(f.Put(), want) {
		t.Errorf("% x", f.Put())
	}
	g, bad := Read(want)
	if bad != api.OK || !Same(f, g) || g.Swaps() != 1 {
		t.Error(bad)
	}
	full, _ := New(64, 63, rules)
	if g, bad := Read(full.Put()); bad != api.OK || !Same(full, g) || g.Spares() != full.Spares() {
		t.Error("64 nodes", bad)
	}
	for name, b := range map[string][]byte{
		"nothing":               nil,
		"no nodes":              lay(0, 1, 2, 1, 0, 0),
		"too many nodes":        append(lay(65, 1, 2, 1, 0, 0), make([]byte, 65*3)...),
		"a number below 0":      lay(-1, 1, 2, 1, 0, 0),
		"wrong rules":           lay(1, 2, 2, 1, 0, 0, 0, 0, 0),
		"all are spares":        lay(1, 1, 2, 1, 1, 0, 0, 0, 0),
		"a spare beyond":        lay(2, 1, 2, 1, 4, 0, 0, 0, 0, 0, 0, 0),
		"spares below 0":        lay(2, 1, 2, 1, -2, 0, 0, 0, 0, 0, 0, 0),
		"swaps below 0":         lay(1, 1, 2, 1, 0, -1, 0, 0, 0),
		"a wrong node":          lay(1, 1, 2, 1, 0, 0, 0, 1, 0),
		"no such state":         lay(1, 1, 2, 1, 0, 0, 5, 0, 0),
		"not swapped":           lay(2, 1, 2, 1, 2, 0, 2, 0, 0, 0, 0, 0),
		"a byte is missing":     want[:len(want)-1],
		"a byte more":           append(bytes.Clone(want), 0),
		"a number in long form": append([]byte{0x88, 0}, want[1:]...),
	} {
		if g, bad := Read(b); bad != api.ErrForm || g != nil {
			t.Error(name, bad)
		}
	}
	g, bad = Read(lay(2, 1, 2, 1, 1, math.MaxInt64, 2, 0, 0, 0, 0, 0))
	if bad != api.OK {
		t.Fatal("a spare that is down", bad)
	}
	g.Tell(0, health.Mend)
	g.Tell(0, health.Beat)
	if g.Tell(1, health.Miss); g.Swaps() != math.MaxInt || g.Spares() != bits.Of(1) {
		t.Error("swaps beyond all numbers", g.Swaps())
	}
}

func TestAlwaysSwapped(t *testing.T) { // P9.5: behind anything that is told
	f, _ := New(7, 3, health.Rules{Suspect: 2, Down: 3, Probation: 2})
	k := uint32(1)
	for range 5000 {
		k = k*1664525 + 1013904223
		was := f.Clone()
		f.Tell(int(k>>16)%7, int(k>>24)%5)
		up := f.Up()
		if f.Spares().Len() != 3 || f.Active().Less(up) != 0 && f.Spares().And(up) != 0 || f.Swaps() < was.Swaps() {
			t.Fatal(f.Active(), f.Spares(), up)
		}
		if f.Swaps() == was.Swaps() && f.Spares() != was.Spares() {
			t.Fatal("a role that was not swapped")
		}
		if g, bad := Read(f.Put()); bad != api.OK || !Same(f, g) {
			t.Fatal("Read", bad)
		}
	}
}
