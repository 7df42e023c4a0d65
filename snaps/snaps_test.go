package snaps

import (
	"math"
	"slices"
	"strconv"
	"strings"
	"testing"

	"berthing/api"
	"berthing/disk"
	"berthing/journal"
)

func open(t *testing.T, d *disk.Disk) *Snaps {
	t.Helper()
	s, bad := Open(d, 1, 2)
	if bad != api.OK {
		t.Fatal(bad)
	}
	return s
}

func told(s *Snaps) string {
	b, gen := s.Last()
	return string(b) + " " + strconv.Itoa(int(gen)) + " " + strconv.Itoa(s.Slot())
}

func lay(d *disk.Disk, f int, gen int64, text string) {
	b, _ := journal.Frame(journal.Record{Gen: gen, B: []byte(text)})
	d.Append(f, b)
}

func TestOpenErrors(t *testing.T) { // P6.1
	d := disk.New()
	for _, c := range []struct {
		d             *disk.Disk
		first, second int
		bad           api.Errno
	}{{d, 1, 1, api.ErrArg}, {nil, 1, 1, api.ErrArg}, {nil, 1, 2, api.ErrNil}, {d, 4, 1, api.ErrNone}, {d, 1, -1, api.ErrNone}, {d, math.MinInt, math.MaxInt, api.ErrNone}} {
		if s, bad := Open(c.d, c.first, c.second); bad != c.bad || s != nil {
			t.Error(c, bad)
		}
	}
	d.Arm(0)
	d.Sync(0)
	if s, bad := Open(d, 1, 9); bad != api.ErrDown || s != nil {
		t.Error(bad)
	}
}

func TestOpen(t *testing.T) { // P6.1
	for name, c := range map[string]struct {
		lay  func(d *disk.Disk)
		want string
	}{
		"empty":        {func(d *disk.Disk) {}, " 0 -1"},
		"first":        {func(d *disk.Disk) { lay(d, 1, 5, "a") }, "a 5 1"},
		"second":       {func(d *disk.Disk) { lay(d, 2, 5, "a") }, "a 5 2"},
		"greater":      {func(d *disk.Disk) { lay(d, 1, 5, "a"); lay(d, 2, 6, "b") }, "b 6 2"},
		"lesser":       {func(d *disk.Disk) { lay(d, 1, 5, "a"); lay(d, 2, 4, "b") }, "a 5 1"},
		"equal":        {func(d *disk.Disk) { lay(d, 1, 5, "a"); lay(d, 2, 5, "b") }, "a 5 1"},
		"generation 0": {func(d *disk.Disk) { lay(d, 1, 0, "a"); lay(d, 2, -4, "b") }, " 0 -1"},
		"two records":  {func(d *disk.Disk) { lay(d, 1, 5, "a"); lay(d, 1, 6, "b"); lay(d, 2, 1, "c") }, "c 1 2"},
		"a byte more":  {func(d *disk.Disk) { lay(d, 1, 5, "a"); d.Append(1, []byte{0}) }, " 0 -1"},
		"other bytes":  {func(d *disk.Disk) { d.Append(1, []byte("snapshot")) }, " 0 -1"},
		"other files":  {func(d *disk.Disk) { lay(d, 0, 5, "a"); lay(d, 3, 6, "b") }, " 0 -1"},
	} {
		d := disk.New()
		c.lay(d)
		if got := told(open(t, d)); got != c.want {
			t.Error(name, got)
		}
	}
}

func TestNoSnaps(t *testing.T) { // P6.1, P6.2
	for _, s := range []*Snaps{nil, {}} {
		if told(s) != " 0 -1" || s.Save(make([]byte, api.MaxText+1)) != api.ErrNil {
			t.Error("of none")
		}
	}
}

func TestSave(t *testing.T) { // P6.2
	d := disk.New()
	s := open(t, d)
	text := []byte("one")
	if s.Save(text) != api.OK {
		t.Error("Save")
	}
	text[0] = '!'
	if b, _ := s.Last(); string(b) == "one" {
		b[1] = '?'
	}
	if told(s) != "one 1 1" || told(open(t, d)) != "one 1 1" {
		t.Error(told(s))
	}
	for i, want := range []string{"two 2 2", "three 3 1", " 4 2"} {
		text, _, _ := strings.Cut(want, " ")
		if s.Save([]byte(text)) != api.OK || told(s) != want || told(open(t, d)) != want {
			t.Error(i, told(s))
		}
	}
	if s.Save(make([]byte, api.MaxText+1)) != api.ErrBig || told(s) != " 4 2" || s.Save(make([]byte, api.MaxText)) != api.OK {
		t.Error("ErrBig")
	}
	if b, _ := d.Read(3); len(b) != 0 {
		t.Error("another file")
	}
}

func TestSaveFull(t *testing.T) { // P6.2
	d := disk.New()
	lay(d, 2, 1<<62-1, "a")
	s := open(t, d)
	if s.Save([]byte("b")) != api.OK || told(s) != "b 4611686018427387904 1" {
		t.Error(told(s))
	}
	if s.Save(make([]byte, api.MaxText+1)) != api.ErrBig || s.Save(nil) != api.ErrFull || told(open(t, d)) != "b 4611686018427387904 1" {
		t.Error("ErrFull")
	}
	lay(d, 3, math.MaxInt64, "")
	if s, _ := Open(d, 3, 0); s.Save(nil) == api.OK {
		t.Error("beyond 2^62")
	}
}

func TestSaveErrors(t *testing.T) { // P6.2
	for left := range 3 { // at the reset, at the append, at the sync
		d := disk.New()
		s := open(t, d)
		s.Save([]byte("a"))
		d.Arm(left)
		if s.Save([]byte("b")) != api.ErrDown || told(s) != "a 1 1" {
			t.Error("an error of the disk", told(s))
		}
		d.Fall([disk.Files]int{})
		if s.Save(make([]byte, api.MaxText+1)) != api.ErrState || told(s) != "a 1 1" || told(open(t, d)) != "a 1 1" {
			t.Error("behind it")
		}
	}
}

func TestFalls(t *testing.T) { // P6.3
	texts := []string{"first", "second", "", "fourth"}
	for left := range 13 {
		for keep := -1; keep < 20; keep++ {
			d := disk.New()
			s := open(t, d)
			d.Arm(left)
			may := []string{" 0 -1"}
			for i, text := range texts {
				next := text + " " + strconv.Itoa(i+1) + " " + strconv.Itoa(i%2+1)
				if s.Save([]byte(text)) != api.OK {
					may = append(may, next)
					break
				}
				may = []string{next}
			}
			d.Fall([disk.Files]int{0, keep, keep, 0})
			if got := told(open(t, d)); !slices.Contains(may, got) {
				t.Fatal(left, keep, may, got)
			}
		}
	}
}
