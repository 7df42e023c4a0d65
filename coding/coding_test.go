package coding

import (
	"bytes"
	"math"
	"slices"
	"strings"
	"testing"

	"berthing/api"
)

var numbers = []int64{0, 1, -1, 2, -2, 63, 64, -64, -65, 127, 128, 8191, 8192, -8192, -8193, 1 << 32, math.MaxInt64, math.MinInt64, math.MinInt64 + 1}

func TestPutInt(t *testing.T) { // P2.1
	for _, c := range []struct {
		v    int64
		want []byte
	}{
		{0, []byte{0}}, {-1, []byte{1}}, {1, []byte{2}}, {63, []byte{0x7e}}, {-64, []byte{0x7f}}, {64, []byte{0x80, 1}}, {-65, []byte{0x81, 1}},
		{math.MaxInt64, []byte{0xfe, 0xff, 0xff, 0xff, 0xff, 0xff, 0xff, 0xff, 0xff, 1}},
		{math.MinInt64, []byte{0xff, 0xff, 0xff, 0xff, 0xff, 0xff, 0xff, 0xff, 0xff, 1}},
	} {
		if got := PutInt(nil, c.v); !bytes.Equal(got, c.want) {
			t.Errorf("%d: % x", c.v, got)
		}
		if got := PutInt([]byte{9}, c.v); !bytes.Equal(got[1:], c.want) || got[0] != 9 {
			t.Errorf("%d behind 9: % x", c.v, got)
		}
	}
	if got := PutText([]byte{7}, "ab"); !bytes.Equal(got, []byte{7, 4, 'a', 'b'}) {
		t.Error(got)
	}
	if got := PutInts(nil, []int64{-1, 64}); !bytes.Equal(got, []byte{4, 1, 0x80, 1}) {
		t.Error(got)
	}
	if got := PutInts(nil, nil); !bytes.Equal(got, []byte{0}) {
		t.Error(got)
	}
}

func TestNewMemory(t *testing.T) { // P2.1: what stands in b's spare room stays, and b does
	room := bytes.Repeat([]byte{5}, 40)
	b := room[:3]
	for _, got := range [][]byte{PutInt(b, 7), PutText(b, "text"), PutInts(b, []int64{1, 2})} {
		got[0] = 9
	}
	if !bytes.Equal(room, bytes.Repeat([]byte{5}, 40)) {
		t.Error("b was changed")
	}
	l := []int64{1, 2}
	c := Read(PutInts(nil, l))
	if got := c.Ints(2); !slices.Equal(got, l) {
		t.Error(got)
	}
	in := []byte{2, 4}
	c = Read(in)
	in[0] = 6
	if c.Int() != 1 {
		t.Error("what was handed in was kept")
	}
}

func TestInt(t *testing.T) { // P2.2
	for _, c := range []struct {
		b    []byte
		bad  api.Errno
		rest int
	}{
		{nil, api.ErrEnd, 0},
		{[]byte{0x80}, api.ErrEnd, 0},
		{bytes.Repeat([]byte{0xff}, 9), api.ErrEnd, 0},
		{[]byte{0x80, 0}, api.ErrForm, 0},
		{[]byte{0x80, 0x80, 0, 5}, api.ErrForm, 0},
		{append(bytes.Repeat([]byte{0xff}, 9), 2), api.ErrForm, 0},
		{append(bytes.Repeat([]byte{0x80}, 9), 0), api.ErrForm, 0},
		{append(bytes.Repeat([]byte{0x80}, 9), 0x80), api.ErrForm, 0},
		{append(bytes.Repeat([]byte{0x80}, 9), 0x81, 0), api.ErrForm, 0},
		{append(bytes.Repeat([]byte{0xff}, 9), 1, 7), api.OK, 1},
	} {
		r := Read(c.b)
		v := r.Int()
		if r.Bad() != c.bad || r.Rest() != c.rest || c.bad != api.OK && v != 0 {
			t.Errorf("% x: %d, %d, rest %d", c.b, v, r.Bad(), r.Rest())
		}
	}
	for _, c := range []struct {
		v    int64
		most int
		bad  api.Errno
	}{{0, 0, api.OK}, {5, 5, api.OK}, {6, 5, api.ErrArg}, {-1, 5, api.ErrArg}, {0, -1, api.ErrArg}, {math.MinInt64, math.MaxInt, api.ErrArg}, {math.MaxInt64, math.MaxInt, api.OK}, {3, math.MinInt, api.ErrArg}} {
		r := Read(PutInt(nil, c.v))
		v := r.Small(c.most)
		if r.Bad() != c.bad || c.bad == api.OK && int64(v) != c.v || c.bad != api.OK && v != 0 {
			t.Error(c, v, r.Bad())
		}
	}
	if r := Read([]byte{0x80}); r.Small(-1) != 0 || r.Bad() != api.ErrEnd {
		t.Error("Int's errors come first")
	}
}

func TestText(t *testing.T) { // P2.3
	long := strings.Repeat("x", api.MaxText)
	for _, c := range []struct {
		b    []byte
		want string
		bad  api.Errno
	}{
		{PutText(nil, ""), "", api.OK}, {PutText(nil, "a\x00b"), "a\x00b", api.OK}, {PutText(nil, long), long, api.OK},
		{PutText(nil, long+"x"), "", api.ErrArg}, {PutInt(nil, -1), "", api.ErrArg}, {[]byte{6, 'a', 'b'}, "", api.ErrEnd},
		{nil, "", api.ErrEnd}, {[]byte{0x80, 0}, "", api.ErrForm}, {PutInt(nil, math.MaxInt64), "", api.ErrArg},
	} {
		r := Read(c.b)
		if got := r.Text(); got != c.want || r.Bad() != c.bad {
			t.Error(c.b[:min(9, len(c.b))], got, r.Bad())
		}
	}
	for _, c := range []struct {
		b    []byte
		most int
		want []int64
		bad  api.Errno
	}{
		{PutInts(nil, numbers), len(numbers), numbers, api.OK}, {PutInts(nil, numbers), len(numbers) - 1, nil, api.ErrArg},
		{PutInt(nil, -1), 9, nil, api.ErrArg}, {PutInt(nil, 1<<60), math.MaxInt, nil, api.ErrEnd},
		{[]byte{4, 2}, 9, nil, api.ErrEnd}, {[]byte{4, 2, 0x80, 0}, 9, nil, api.ErrForm}, {[]byte{0}, 0, nil, api.OK}, {[]byte{0}, -1, nil, api.ErrArg},
	} {
		r := Read(c.b)
		if got := r.Ints(c.most); !slices.Equal(got, c.want) || r.Bad() != c.bad {
			t.Error(c.b, got, r.Bad())
		}
	}
}

func TestAfterFault(t *testing.T) { // P2.4
	r := Read([]byte{0x80, 0, 2, 2, 2})
	r.Int()
	if r.Int() != 0 || r.Small(5) != 0 || r.Small(-1) != 0 || r.Text() != "" || len(r.Ints(4)) != 0 || r.Rest() != 0 || r.Bad() != api.ErrForm || r.End() != api.ErrForm {
		t.Error("something was read behind a fault")
	}
	r = Read([]byte{2, 4})
	if r.Rest() != 2 || r.End() != api.ErrForm || r.Bad() != api.OK || r.Int() != 1 || r.Rest() != 1 || r.End() != api.ErrForm || r.Int() != 2 || r.End() != api.OK {
		t.Error("End")
	}
}

func TestNoCursor(t *testing.T) { // P2.4
	var none *Cursor
	if none.Int() != 0 || none.Small(-1) != 0 || none.Text() != "" || none.Ints(3) != nil || none.Rest() != 0 || none.Bad() != api.OK || none.End() != api.OK {
		t.Error("nil")
	}
	for _, read := range []func(c *Cursor){func(c *Cursor) { c.Int() }, func(c *Cursor) { c.Small(1) }, func(c *Cursor) { c.Text() }, func(c *Cursor) { c.Ints(1) }} {
		c := &Cursor{}
		if c.Bad() != api.OK || c.End() != api.OK {
			t.Error("plain, at first")
		}
		if read(c); c.Bad() != api.ErrEnd || c.End() != api.ErrEnd {
			t.Error("plain")
		}
	}
}

func TestThereAndBack(t *testing.T) { // P2.5
	var b []byte
	for _, v := range numbers {
		b = PutText(PutInt(b, v), strings.Repeat("t", int(v&255)))
	}
	b = PutInts(b, numbers)
	r := Read(b)
	for _, v := range numbers {
		if got, s := r.Int(), r.Text(); got != v || len(s) != int(v&255) {
			t.Error(v, got, len(s))
		}
	}
	if !slices.Equal(r.Ints(99), numbers) || r.End() != api.OK {
		t.Error("Ints")
	}
	for i := range 1 << 16 { // one form: what is read of any bytes is laid as those
		in := []byte{byte(i), byte(i >> 8)}
		r := Read(in)
		if v := r.Int(); r.Bad() == api.OK && !bytes.Equal(PutInt(nil, v), in[:2-r.Rest()]) {
			t.Fatal(in, v)
		}
	}
}
