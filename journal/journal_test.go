package journal

import (
	"bytes"
	"math"
	"slices"
	"testing"

	"berthing/api"
	"berthing/coding"
	"berthing/disk"
	"berthing/sum"
)

func four(v uint32) []byte { return []byte{byte(v), byte(v >> 8), byte(v >> 16), byte(v >> 24)} }

// raw is a frame of any bytes, whatever they are.
func raw(body []byte) []byte {
	return slices.Concat(four(uint32(len(body))), four(sum.Sum(body)), body)
}

func frame(t *testing.T, gen int64, s string) []byte {
	t.Helper()
	b, bad := Frame(Record{gen, []byte(s)})
	if bad != api.OK {
		t.Fatal(bad)
	}
	return b
}

func of(l *Log, gen int64) string {
	var s string
	for b := range l.Of(gen) {
		s += string(b) + ";"
	}
	return s
}

func open(t *testing.T, d *disk.Disk) *Log {
	t.Helper()
	l, bad := Open(d, 0)
	if bad != api.OK {
		t.Fatal(bad)
	}
	return l
}

func TestFrame(t *testing.T) { // P5.1
	if got := frame(t, 0, "a"); !bytes.Equal(got, slices.Concat([]byte{2, 0, 0, 0}, four(sum.Sum([]byte{0, 'a'})), []byte{0, 'a'})) {
		t.Errorf("% x", got)
	}
	if got := frame(t, -65, ""); !bytes.Equal(got, raw(coding.PutInt(nil, -65))) {
		t.Errorf("% x", got)
	}
	if b, bad := Frame(Record{1, make([]byte, api.MaxText+1)}); bad != api.ErrBig || len(b) != 0 {
		t.Error("a text that is too long", bad)
	}
	if b, bad := Frame(Record{math.MinInt64, make([]byte, api.MaxText)}); bad != api.OK || len(b) != 8+10+api.MaxText {
		t.Error("the longest text", bad)
	}
}

func TestParse(t *testing.T) { // P5.2
	one, two := frame(t, 3, "one"), frame(t, math.MinInt64, "")
	both := slices.Concat(one, two)
	l, n := Parse(both)
	if n != len(both) || len(l) != 2 || l[0].Gen != 3 || string(l[0].B) != "one" || l[1].Gen != math.MinInt64 || len(l[1].B) != 0 {
		t.Error(l, n)
	}
	if cap(l[0].B) != 3 {
		t.Error("spare room")
	}
	l[0].B[0] = '!'
	if l, _ := Parse(both); string(l[0].B) != "one" {
		t.Error("memory is shared")
	}
	for cut := range both {
		l, n := Parse(both[:cut])
		if cut < len(one) && (len(l) != 0 || n != 0) || cut >= len(one) && (len(l) != 1 || n != len(one)) {
			t.Error(cut, l, n)
		}
	}
	for i := range one {
		c := slices.Clone(one)
		c[i] ^= 1
		if l, n := Parse(append(c, two...)); len(l) != 0 || n != 0 {
			t.Error("another byte", i, l, n)
		}
	}
	gen := coding.PutInt(nil, math.MinInt64)
	for name, c := range map[string]struct {
		b    []byte
		many int
	}{
		"no generation":       {raw(nil), 0},
		"half a generation":   {raw([]byte{0x80}), 0},
		"a longer generation": {raw([]byte{0x80, 0, 1}), 0},
		"the longest":         {raw(append(slices.Clone(gen), make([]byte, api.MaxText)...)), 1},
		"too long":            {raw(append(slices.Clone(gen), make([]byte, api.MaxText+1)...)), 0},
		"too long a text":     {raw(append([]byte{0}, make([]byte, api.MaxText+1)...)), 0},
		"far too long":        {append(four(math.MaxUint32), make([]byte, 99)...), 0},
		"nothing":             {nil, 0},
	} {
		if l, n := Parse(c.b); len(l) != c.many || c.many == 0 && n != 0 || c.many == 1 && n != len(c.b) {
			t.Error(name, len(l), n)
		}
	}
}

func TestOpen(t *testing.T) { // P5.3
	if l, bad := Open(nil, 0); bad != api.ErrNil || l != nil {
		t.Error(bad)
	}
	d := disk.New()
	if l, bad := Open(d, 4); bad != api.ErrNone || l != nil {
		t.Error(bad)
	}
	b := frame(t, 1, "a")
	d.Append(0, b)
	if l := open(t, d); l.Len() != len(b) || l.Torn() || of(l, 1) != "a;" {
		t.Error(l.Len(), l.Torn())
	}
	d.Append(0, []byte{1})
	if l := open(t, d); l.Len() != len(b) || !l.Torn() || of(l, 1) != "a;" {
		t.Error(l.Len(), l.Torn())
	}
	d.Arm(0)
	d.Sync(0)
	if l, bad := Open(d, 0); bad != api.ErrDown || l != nil {
		t.Error(bad)
	}
}

func TestNoLog(t *testing.T) { // P5.4
	for _, l := range []*Log{nil, {}} {
		if l.Add(Record{}) != api.ErrNil || l.Clear() != api.ErrNil || l.Len() != 0 || l.Torn() || of(l, 0) != "" {
			t.Error("of none")
		}
	}
}

func TestAdd(t *testing.T) { // P5.4
	d := disk.New()
	l := open(t, d)
	text := []byte("one")
	if l.Add(Record{2, text}) != api.OK || l.Add(Record{3, []byte("other")}) != api.OK || l.Add(Record{2, []byte("two")}) != api.OK {
		t.Error("Add")
	}
	text[0] = '!'
	want := slices.Concat(frame(t, 2, "one"), frame(t, 3, "other"), frame(t, 2, "two"))
	if b, _ := d.Safe(0); !bytes.Equal(b, want) || l.Len() != len(want) || l.Torn() {
		t.Error("what is on the disk")
	}
	if of(l, 2) != "one;two;" || of(l, 3) != "other;" || of(l, 4) != "" || of(open(t, d), 2) != "one;two;" {
		t.Error(of(l, 2))
	}
	for b := range l.Of(2) {
		b[0] = '?'
		if cap(b) != len(b) {
			t.Error("spare room")
		}
		break
	}
	if of(l, 2) != "one;two;" {
		t.Error("memory is shared")
	}
	if l.Add(Record{2, make([]byte, api.MaxText+1)}) != api.ErrBig || l.Add(Record{5, nil}) != api.OK {
		t.Error("ErrBig")
	}
	d.Append(0, []byte{9})
	if l = open(t, d); l.Add(Record{2, make([]byte, api.MaxText+1)}) != api.ErrState {
		t.Error("torn")
	}
	if l.Clear() != api.OK || l.Torn() || l.Len() != 0 || of(l, 2) != "" || l.Add(Record{2, nil}) != api.OK {
		t.Error("Clear")
	}
}

func TestDiskErrors(t *testing.T) { // P5.4
	for left := range 2 { // at the append, at the sync
		d := disk.New()
		l := open(t, d)
		l.Add(Record{1, []byte("a")})
		had := l.Len()
		d.Arm(left)
		if l.Add(Record{1, []byte("b")}) != api.ErrDown || l.Len() != had || of(l, 1) != "a;" || l.Torn() {
			t.Error("an error of the disk")
		}
		if l.Add(Record{1, make([]byte, api.MaxText+1)}) != api.ErrState || l.Clear() != api.ErrDown || of(l, 1) != "a;" {
			t.Error("behind it")
		}
		d.Fall([disk.Files]int{})
		if l.Add(Record{1, nil}) != api.ErrState || l.Clear() != api.OK || l.Add(Record{1, nil}) != api.OK {
			t.Error("forgotten")
		}
	}
	d := disk.New()
	l := open(t, d)
	d.Append(0, make([]byte, api.MaxFile))
	if l.Add(Record{1, nil}) != api.ErrFull || l.Add(Record{1, nil}) != api.ErrState {
		t.Error("a full file")
	}
	d = disk.New()
	l = open(t, d)
	d.Arm(0)
	if l.Clear() != api.ErrDown || l.Add(Record{1, nil}) != api.ErrState {
		t.Error("an error of Clear")
	}
}

func TestFalls(t *testing.T) { // P5.5
	texts := []string{"first", "", "third"}
	for left := range 7 {
		for keep := -1; keep < 20; keep++ {
			d := disk.New()
			l := open(t, d)
			d.Arm(left)
			told, trying := "", ""
			for _, s := range texts {
				if l.Add(Record{1, []byte(s)}) != api.OK {
					trying = s + ";"
					break
				}
				told += s + ";"
			}
			d.Fall([disk.Files]int{keep})
			l = open(t, d)
			got := of(l, 1)
			if got != told && got != told+trying {
				t.Fatal(left, keep, told, got)
			}
			b, _ := d.Read(0)
			if l.Torn() != (l.Len() < len(b)) {
				t.Fatal("Torn")
			}
		}
	}
}
