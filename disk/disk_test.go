package disk

import (
	"bytes"
	"math"
	"testing"

	"berthing/api"
)

func text(t *testing.T, d *Disk, f int) string {
	t.Helper()
	b, bad := d.Read(f)
	if bad != api.OK {
		t.Fatal("Read", bad)
	}
	return string(b)
}

func safe(t *testing.T, d *Disk, f int) string {
	t.Helper()
	b, bad := d.Safe(f)
	if bad != api.OK {
		t.Fatal("Safe", bad)
	}
	return string(b)
}

func TestNewAndClone(t *testing.T) { // P4.1
	d := New()
	if Files != 4 {
		t.Error("Files")
	}
	for f := range Files {
		if text(t, d, f) != "" || safe(t, d, f) != "" {
			t.Error("not empty", f)
		}
	}
	d.Append(1, []byte("ab"))
	d.Sync(1)
	d.Append(1, []byte("c"))
	d.Arm(1)
	c := d.Clone()
	d.Append(1, []byte("d"))
	if d.Append(1, nil) != api.ErrDown || c.Down() || text(t, c, 1) != "abc" || safe(t, c, 1) != "ab" {
		t.Error("Clone")
	}
	c.Append(1, []byte("x"))
	if c.Sync(1) != api.ErrDown || !c.Clone().Down() {
		t.Error("Clone is not armed")
	}
	var none *Disk
	if none.Clone() != nil || (&Disk{}).Clone() != nil {
		t.Error("Clone of none")
	}
}

func TestFiles(t *testing.T) { // P4.2
	d := New()
	b := []byte("xyz")
	d.Append(2, b)
	b[0] = '!'
	got, _ := d.Read(2)
	got[0] = '?'
	if text(t, d, 2) != "xyz" || safe(t, d, 2) != "" || text(t, d, 1) != "" {
		t.Error("Append")
	}
	if d.Sync(2) != api.OK || safe(t, d, 2) != "xyz" {
		t.Error("Sync")
	}
	d.Append(2, []byte("w"))
	if text(t, d, 2) != "xyzw" || safe(t, d, 2) != "xyz" {
		t.Error("Append behind safe ones")
	}
	if d.Reset(2) != api.OK || text(t, d, 2) != "" || safe(t, d, 2) != "" {
		t.Error("Reset")
	}
	d.Fall([Files]int{})
	if text(t, d, 2) != "" {
		t.Error("Reset is safe at once")
	}
}

func TestErrors(t *testing.T) { // P4.2
	for _, d := range []*Disk{nil, {}} {
		d.Arm(0)
		d.Fall([Files]int{})
		_, r := d.Read(9)
		_, s := d.Safe(9)
		if d.Append(9, nil) != api.ErrNil || d.Sync(0) != api.ErrNil || d.Reset(0) != api.ErrNil || r != api.ErrNil || s != api.ErrNil || d.Down() {
			t.Error("of none")
		}
	}
	for _, f := range []int{-1, Files, math.MinInt, math.MaxInt} {
		d := New()
		_, r := d.Read(f)
		_, s := d.Safe(f)
		if d.Append(f, nil) != api.ErrNone || d.Sync(f) != api.ErrNone || d.Reset(f) != api.ErrNone || r != api.ErrNone || s != api.ErrNone {
			t.Error("file", f)
		}
		d.Arm(0)
		d.Sync(0)
		if _, s := d.Safe(f); d.Append(f, nil) != api.ErrDown || s != api.ErrNone {
			t.Error("ErrDown comes first")
		}
	}
	d := New()
	if d.Append(0, make([]byte, api.MaxFile-1)) != api.OK || d.Append(0, make([]byte, 2)) != api.ErrFull || len(text(t, d, 0)) != api.MaxFile-1 || d.Append(0, []byte{1}) != api.OK || d.Append(0, []byte{1}) != api.ErrFull || d.Append(0, nil) != api.OK {
		t.Error("MaxFile")
	}
	if d.Append(1, make([]byte, api.MaxFile+1)) != api.ErrFull || text(t, d, 1) != "" {
		t.Error("ErrFull")
	}
}

func TestArm(t *testing.T) { // P4.3
	d := New()
	d.Arm(2)
	d.Append(0, []byte("a"))
	d.Append(7, []byte("none"))            // errors do not count
	d.Append(0, make([]byte, api.MaxFile)) // neither this one
	d.Read(0)                              // nor what reads
	if d.Sync(0) != api.OK || d.Down() {
		t.Error("too early")
	}
	d.Append(9, nil)
	if d.Append(0, []byte("b")) != api.ErrDown || !d.Down() {
		t.Error("not down")
	}
	if _, bad := d.Read(0); bad != api.ErrDown || d.Append(0, []byte("c")) != api.ErrDown || d.Sync(0) != api.ErrDown || d.Reset(0) != api.ErrDown {
		t.Error("calls while it is down")
	}
	if safe(t, d, 0) != "a" {
		t.Error("Safe while it is down")
	}
	d.Fall([Files]int{9, 9, 9, 9})
	if d.Down() || text(t, d, 0) != "ab" {
		t.Error("the append was not done", text(t, d, 0))
	}
	d.Append(0, []byte("c"))
	d.Arm(0)
	if d.Sync(0) != api.ErrDown || safe(t, d, 0) != "ab" {
		t.Error("the sync was done")
	}
	d.Fall([Files]int{})
	d.Arm(0)
	if d.Reset(0) != api.ErrDown {
		t.Error("Reset")
	}
	d.Fall([Files]int{})
	if text(t, d, 0) != "ab" {
		t.Error("the reset was done")
	}
	d.Arm(0)
	d.Arm(-1)
	for range 9 {
		if d.Append(0, nil) != api.OK || d.Sync(0) != api.OK {
			t.Error("armed")
		}
	}
	d.Arm(0)
	d.Fall([Files]int{})
	if d.Sync(0) != api.OK {
		t.Error("armed behind a fall")
	}
}

func TestFall(t *testing.T) { // P4.4
	for keep, want := range map[int]string{-1: "ab", math.MinInt: "ab", 0: "ab", 1: "abx", 2: "abxy", 3: "abxyz", 4: "abxyz", math.MaxInt: "abxyz"} {
		d := New()
		d.Append(3, []byte("ab"))
		d.Sync(3)
		d.Append(3, []byte("xyz"))
		d.Append(0, []byte("gone"))
		d.Fall([Files]int{3: keep})
		if text(t, d, 3) != want || safe(t, d, 3) != want || text(t, d, 0) != "" {
			t.Error(keep, text(t, d, 3))
		}
		d.Append(3, []byte("!"))
		if b, _ := d.Read(3); !bytes.Equal(b, []byte(want+"!")) {
			t.Error("behind a fall", string(b))
		}
	}
}
