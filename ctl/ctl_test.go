package ctl

import (
	"bytes"
	"slices"
	"strconv"
	"testing"

	"berthing/api"
	"berthing/cmd"
	"berthing/core"
	"berthing/disk"
	"berthing/health"
	"berthing/journal"
	"berthing/parse"
	"berthing/prio"
	"berthing/snaps"
)

func conf() core.Conf {
	return core.Conf{Parts: []core.Part{{Nodes: 4, Spares: 1}}, Rules: health.Rules{Suspect: 1, Down: 2, Probation: 1}, Retries: 1, Half: 100, Weights: prio.Weights{Age: 1}}
}

func open(t *testing.T, d *disk.Disk) *Ctl {
	t.Helper()
	c, bad := Open(conf(), d)
	if bad != api.OK {
		t.Fatal("Open", bad)
	}
	return c
}

func says(t *testing.T, c *Ctl, line, want string) {
	t.Helper()
	if got, bad := c.Line(line); got != want || bad != api.OK {
		t.Errorf("%s: %q %d, not %q", line, got, bad, want)
	}
}

func files(d *disk.Disk) string {
	all := ""
	for f := range disk.Files {
		b, _ := d.Safe(f)
		all += strconv.Quote(string(b)) + ";"
	}
	return all
}

func command(line string) cmd.Command {
	l, _ := parse.Parse(line)
	return l.Command
}

func TestOpen(t *testing.T) { // P27.1
	d := disk.New()
	c := open(t, d)
	fresh, _ := core.New(conf())
	if c.Gen() != 0 || c.Kept() != 0 || c.Down() || !bytes.Equal(c.State().Put(), fresh.Put()) || files(d) != files(disk.New()) {
		t.Error("of an empty disk")
	}
	wrong := conf()
	wrong.Half = 0
	if c, bad := Open(wrong, nil); c != nil || bad != api.ErrArg {
		t.Error(bad)
	}
	if c, bad := Open(conf(), nil); c != nil || bad != api.ErrNil {
		t.Error(bad)
	}
	d.Arm(0)
	d.Sync(0)
	if c, bad := Open(conf(), d); c != nil || bad != api.ErrDown {
		t.Error(bad)
	}
	d = disk.New()
	c = open(t, d)
	says(t, c, "submit user=1 width=2 limit=5", "ok id 1\n")
	says(t, c, "tick to=2", "ok\n")
	again := open(t, d)
	if again.Gen() != 1 || again.Kept() != 0 || !bytes.Equal(again.State().Put(), c.State().Put()) {
		t.Error("what was kept", again.Gen(), again.Kept())
	}
	if third := open(t, d); third.Gen() != 1 || !bytes.Equal(third.State().Put(), c.State().Put()) {
		t.Error("opened without anything kept", third.Gen())
	}
}

func TestOpenOthers(t *testing.T) { // P27.1
	record := func(d *disk.Disk, gen int64, b []byte) {
		f, _ := journal.Frame(journal.Record{Gen: gen, B: b})
		d.Append(0, f)
	}
	snap := func(d *disk.Disk, b []byte) {
		s, _ := snaps.Open(d, 1, 2)
		s.Save(b)
	}
	made, _ := core.New(conf())
	made.Do(command("tick to=7"))
	other := conf()
	other.Half = 99
	others, _ := core.New(other)
	for name, c := range map[string]struct {
		lay func(d *disk.Disk)
		bad api.Errno
		now api.Time
		gen int64
	}{
		"a snapshot":        {func(d *disk.Disk) { snap(d, made.Put()) }, api.OK, 7, 1},
		"another one's":     {func(d *disk.Disk) { snap(d, others.Put()) }, api.ErrForm, 0, 0},
		"no state":          {func(d *disk.Disk) { snap(d, []byte("text")) }, api.ErrForm, 0, 0},
		"a record":          {func(d *disk.Disk) { record(d, 0, cmd.Put(command("tick to=3"))) }, api.OK, 3, 1},
		"an older record":   {func(d *disk.Disk) { snap(d, made.Put()); record(d, 0, []byte("x")) }, api.OK, 7, 2},
		"a later record":    {func(d *disk.Disk) { record(d, 1, []byte("x")) }, api.OK, 0, 1},
		"records behind it": {func(d *disk.Disk) { snap(d, made.Put()); record(d, 1, cmd.Put(command("tick to=9"))) }, api.OK, 9, 2},
		"no command":        {func(d *disk.Disk) { record(d, 0, []byte("x")) }, api.ErrForm, 0, 0},
		"torn":              {func(d *disk.Disk) { d.Append(0, []byte("x")) }, api.OK, 0, 1},
		"refused again":     {func(d *disk.Disk) { snap(d, made.Put()); record(d, 1, cmd.Put(command("tick to=3"))) }, api.OK, 7, 2},
	} {
		d := disk.New()
		c.lay(d)
		for f := range disk.Files {
			d.Sync(f)
		}
		got, bad := Open(conf(), d)
		if bad != c.bad || (got == nil) != (bad != api.OK) {
			t.Error(name, bad)
			continue
		}
		if got != nil && (got.State().Now() != c.now || got.Gen() != c.gen || got.Kept() != 0) {
			t.Error(name, got.State().Now(), got.Gen())
		}
	}
	d := disk.New()
	record(d, 0, cmd.Put(command("tick to=3")))
	d.Sync(0)
	for left := range 4 {
		c := d.Clone()
		c.Arm(left)
		if got, bad := Open(conf(), c); got != nil || bad != api.ErrDown {
			t.Error("an error of Save", left, bad)
		}
	}
}

func TestDo(t *testing.T) { // P27.2
	d := disk.New()
	c := open(t, d)
	was := files(d)
	if r, l, bad := c.Do(cmd.Command{Kind: cmd.Cancel, Id: 1}); r != (cmd.Reply{Code: api.ErrNone}) || len(l) != 0 || bad != api.OK || files(d) != was {
		t.Error(r, bad)
	}
	if r, _, bad := c.Do(cmd.Command{}); r.Code != api.ErrArg || bad != api.OK {
		t.Error(r, bad)
	}
	m := command("submit user=1 width=2 limit=5")
	m.Id, m.Many = 9, 9
	r, l, bad := c.Do(m)
	if r != (cmd.Reply{Id: 1}) || len(l) != 1 || l[0].Job != 1 || bad != api.OK {
		t.Error(r, l, bad)
	}
	want, _ := journal.Frame(journal.Record{B: cmd.Put(m)})
	if b, _ := d.Safe(0); !bytes.Equal(b, want) || c.Kept() != len(want) || c.Kept() != 21 {
		t.Error("not kept", c.Kept())
	}
	for left := range 2 {
		d := d.Clone()
		c, _ := Open(conf(), d)
		was := c.State().Put()
		d.Arm(left)
		if r, l, bad := c.Do(command("tick to=4")); r != (cmd.Reply{}) || len(l) != 0 || bad != api.ErrDown || !c.Down() || !bytes.Equal(c.State().Put(), was) {
			t.Error("an error of the disk", r, bad)
		}
		d.Fall([disk.Files]int{})
		if r, l, bad := c.Do(command("tick to=4")); r != (cmd.Reply{}) || len(l) != 0 || bad != api.ErrDown || c.Save() != api.ErrDown {
			t.Error("behind it", r, bad)
		}
		if _, bad := c.Line("queue"); bad != api.ErrDown {
			t.Error("behind it", bad)
		}
	}
}

func TestSavedByItself(t *testing.T) { // P27.2
	d := disk.New()
	c := open(t, d)
	for i := 1; c.Gen() == 0; i++ {
		was := c.Kept()
		says(t, c, "tick to="+strconv.Itoa(i), "ok\n")
		if c.Gen() == 0 && (c.Kept() <= was || c.Kept() > 4096) || c.Gen() == 1 && (was < 4096-30 || c.Kept() != 0) {
			t.Fatal(i, was, c.Kept())
		}
	}
	for left := range 5 {
		d := disk.New()
		c := open(t, d)
		for i := 1; c.Kept() <= 4096-24; i++ {
			says(t, c, "tick to="+strconv.Itoa(i), "ok\n")
		}
		for c.Gen() == 0 && !c.Down() {
			d.Arm(2 + left)
			says(t, c, "tick to=999999", "ok\n")
		}
		if c.Down() != (left < 4) || c.State().Now() != 999999 {
			t.Error(left, c.Down())
		}
		d.Fall([disk.Files]int{})
		if got := open(t, d); !bytes.Equal(got.State().Put(), c.State().Put()) {
			t.Error(left, "not kept")
		}
	}
}

func TestSavedAbove4096(t *testing.T) { // P27.2
	c := open(t, disk.New())
	for at := 1; at < 63; at++ {
		says(t, c, "tick to="+strconv.Itoa(at), "ok\n") // 21 bytes each
	}
	for at := 64; at < 191; at++ {
		says(t, c, "tick to="+strconv.Itoa(at), "ok\n") // 22
	}
	if c.Kept() != 4096 || c.Gen() != 0 {
		t.Error(c.Kept(), c.Gen())
	}
	says(t, c, "undrain", "error 13\n")
	if c.Gen() != 0 {
		t.Error("saved by what was refused")
	}
	says(t, c, "tick to=999", "ok\n")
	if c.Kept() != 0 || c.Gen() != 1 {
		t.Error(c.Kept(), c.Gen())
	}
}

func TestSave(t *testing.T) { // P27.3
	d := disk.New()
	c := open(t, d)
	says(t, c, "submit user=1 width=2 limit=5", "ok id 1\n")
	if c.Save() != api.OK || c.Gen() != 1 || c.Kept() != 0 {
		t.Error("Save")
	}
	s, _ := snaps.Open(d, 1, 2)
	if b, gen := s.Last(); gen != 1 || !bytes.Equal(b, c.State().Put()) || s.Slot() != 1 {
		t.Error("the snapshot", gen)
	}
	if c.Save() != api.OK || c.Gen() != 2 {
		t.Error(c.Gen())
	}
	if s, _ := snaps.Open(d, 1, 2); s.Slot() != 2 {
		t.Error("the second snapshot", s.Slot())
	}
	for left := range 4 {
		d.Arm(left)
		c := open(t, d)
		if c.Save() != api.ErrDown || !c.Down() || c.Save() != api.ErrDown {
			t.Error(left)
		}
		d.Fall([disk.Files]int{})
	}
}

func TestLine(t *testing.T) { // P27.4
	c := open(t, disk.New())
	says(t, c, "submit user=1 width=3 limit=5", "ok id 1\n")
	says(t, c, "submit user=1 width=1 limit=5", "ok id 2 at 5\n")
	says(t, c, "submit user=1 width=4 limit=5", "error 3\n")
	says(t, c, "cancel id=05", "error 11\n")
	says(t, c, "cancel id=0", "error 2\n")
	says(t, c, string(make([]byte, 300)), "error 3\n")
	says(t, c, "", "error 11\n")
	says(t, c, "plans", "job 2 plan 5 promise 5\n")
	says(t, c, "plans part=3", "")
	kept := c.Kept()
	says(t, c, "queue", "job 1 user 1 part 0 width 3 limit 5 running tries 1 until 5 nodes 0-2\njob 2 user 1 part 0 width 1 limit 5 waiting tries 0 promise 5\n")
	if c.Kept() != kept {
		t.Error("a query was kept")
	}
}

func TestNoneAndCopies(t *testing.T) { // P27.2 to P27.5
	for _, c := range []*Ctl{nil, {}} {
		s, bad := c.Line("")
		r, l, bad2 := c.Do(cmd.Command{})
		if s != "" || bad != api.ErrNil || r != (cmd.Reply{}) || len(l) != 0 || bad2 != api.ErrNil || c.Save() != api.ErrNil || c.State() != nil || c.Gen() != 0 || c.Kept() != 0 || !c.Down() {
			t.Error("of none")
		}
	}
	c := open(t, disk.New())
	c.State().Do(command("tick to=9"))
	if c.State().Now() != 0 {
		t.Error("State is no copy")
	}
}

func TestFalls(t *testing.T) { // P27.6, W4
	lines := []string{"submit user=1 width=2 limit=5", "reserve from=9 many=3 width=2", "save", "submit user=2 width=3 limit=4", "tick to=3", "cancel id=9", "drain width=1", "save", "save", "tell node=0 what=miss", "tick to=20"}
	for left := range 60 {
		for _, keep := range [][disk.Files]int{{}, {1, 1, 1}, {9, 40, 40}, {21, 21, 21}, {-1, 99, 200}, {999, 999, 999}} {
			d := disk.New()
			d.Arm(left)
			c, _ := Open(conf(), d)
			may := [][]byte{c.State().Put()}
			for _, line := range lines {
				next := c.State()
				next.Do(command(line))
				bad := api.OK
				if line == "save" {
					bad = c.Save()
				} else {
					_, bad = c.Line(line)
				}
				if bad != api.OK {
					may = append(may, next.Put())
					break
				}
				may = [][]byte{c.State().Put()}
			}
			d.Fall(keep)
			is := func(b []byte) func([]byte) bool {
				return func(o []byte) bool { return bytes.Equal(b, o) }
			}
			for again := range 9 { // it falls again, within Open
				d.Arm(again)
				c, bad := Open(conf(), d)
				if bad == api.OK {
					if !slices.ContainsFunc(may, is(c.State().Put())) {
						t.Fatal(left, keep, again)
					}
					may = [][]byte{c.State().Put()}
				}
				d.Fall(keep)
			}
			if got := open(t, d); !slices.ContainsFunc(may, is(got.State().Put())) || !bytes.Equal(open(t, d).State().Put(), got.State().Put()) {
				t.Fatal(left, keep)
			}
		}
	}
}
