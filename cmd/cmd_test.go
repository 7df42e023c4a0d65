package cmd

import (
	"bytes"
	"math"
	"testing"

	"berthing/api"
	"berthing/coding"
)

const top = api.Never

// full has all fields, of a kind.
func full(k int) Command { return Command{k, 5, 6, 1, 8, -9, 10, 11, 2, 13, 14, true} }

// want is what Clean leaves of each kind.
var want = map[int]Command{
	Submit: {Kind: 1, User: 6, Part: 1, Width: 8, Nice: -9, After: 10, Time: 13, Held: true}, Cancel: {Kind: 2, Id: 5}, Hold: {Kind: 3, Id: 5}, Release: {Kind: 4, Id: 5}, Limit: {Kind: 5, Id: 5, Time: 13},
	Reserve: {Kind: 6, Part: 1, Time: 13, Many: 14, Width: 8}, Unreserve: {Kind: 7, Part: 1, Id: 5}, Drain: {Kind: 8, Part: 1, Width: 8}, Undrain: {Kind: 9, Part: 1}, Tick: {Kind: 10, Time: 13}, Tell: {Kind: 11, Part: 1, Node: 11, What: 2}, Exit: {Kind: 12, Id: 5},
}

func TestClean(t *testing.T) { // P22.1
	for k, c := range want {
		if full(k).Clean() != c || c.Clean() != c {
			t.Error(k, full(k).Clean())
		}
	}
	for _, k := range []int{0, -1, 13, math.MinInt, math.MaxInt} {
		if full(k).Clean() != (Command{}) {
			t.Error(k)
		}
	}
}

func TestRight(t *testing.T) { // P22.2
	for _, k := range []int{0, -1, 13, math.MinInt, math.MaxInt} {
		if full(k).Right() {
			t.Error(k)
		}
	}
	const far = math.MaxInt
	type at struct {
		set         func(*Command, int)
		least, most int
	}
	id := at{func(c *Command, v int) { c.Id = v }, 1, 1 << 30}
	user := at{func(c *Command, v int) { c.User = v }, 1, 16}
	part := at{func(c *Command, v int) { c.Part = v }, 0, 3}
	width := at{func(c *Command, v int) { c.Width = v }, 1, 64}
	nice := at{func(c *Command, v int) { c.Nice = v }, -100, 100}
	after := at{func(c *Command, v int) { c.After = v }, 0, 1 << 30}
	node := at{func(c *Command, v int) { c.Node = v }, 0, 63}
	what := at{func(c *Command, v int) { c.What = v }, 0, 4}
	limit := at{func(c *Command, v int) { c.Time = api.Time(v) }, 1, 1 << 20}
	moment := at{func(c *Command, v int) { c.Time = api.Time(v) }, 0, int(top) - 1}
	many := at{func(c *Command, v int) { c.Many = api.Time(v) }, 1, int(top) - 1}
	all := []at{id, user, part, width, nice, after, node, what, moment, many}
	for k, counts := range map[int][]at{
		Submit: {user, part, width, nice, after, limit}, Cancel: {id}, Hold: {id}, Release: {id}, Limit: {id, limit}, Reserve: {part, moment, many, width},
		Unreserve: {part, id}, Drain: {part, width}, Undrain: {part}, Tick: {moment}, Tell: {part, node, what}, Exit: {id},
	} {
		wild := Command{k, -far, -far, -far, far, far, far, far, -far, -far, far, true}
		for _, a := range counts {
			a.set(&wild, a.least)
		}
		if !wild.Right() {
			t.Error(k, "what does not count", wild)
		}
		for _, a := range counts {
			for v, right := range map[int]bool{a.least: true, a.most: true, a.least - 1: false, a.most + 1: false, -far: false, far: false} {
				c := wild
				if a.set(&c, v); c.Right() != right {
					t.Error(k, v, c)
				}
			}
		}
		c := full(k)
		for _, a := range all {
			a.set(&c, a.least)
		}
		for _, a := range counts {
			a.set(&c, a.most)
		}
		c.Held = !c.Held
		if !c.Right() {
			t.Error(k, c)
		}
	}
}

func TestBytes(t *testing.T) { // P22.3
	var submit []byte
	for _, v := range []int64{1, 0, 6, 1, 8, -9, 10, 0, 0, 13, 0, 1} {
		submit = coding.PutInt(submit, v)
	}
	if got := Put(full(Submit)); !bytes.Equal(got, submit) {
		t.Errorf("% x", got)
	}
	for k, c := range want {
		if got, bad := Read(Put(full(k))); got != c || bad != api.OK {
			t.Error(k, got, bad)
		}
	}
	lay := func(change func(*Command)) []byte {
		c := want[Cancel]
		change(&c)
		var b []byte
		for _, v := range c.laid() {
			b = coding.PutInt(b, v)
		}
		return b
	}
	held := lay(func(c *Command) {})
	held[11] = 4
	good := lay(func(c *Command) {})
	if got, bad := Read(good); got != want[Cancel] || bad != api.OK {
		t.Error(bad)
	}
	for name, b := range map[string][]byte{
		"nothing": nil, "cut": good[:11], "a byte more": append(bytes.Clone(good), 0), "a long form": append([]byte{0x84, 0}, good[1:]...), "a wrong kind": lay(func(c *Command) { c.Kind = 13 }), "kind 0": lay(func(c *Command) { *c = Command{} }),
		"a wrong field": lay(func(c *Command) { c.Id = 0 }), "what does not count": lay(func(c *Command) { c.User = 1 }), "held": lay(func(c *Command) { c.Held = true }), "held of 2": held, "many": lay(func(c *Command) { c.Many = 1 }), "a wrong command": Put(Command{Kind: Cancel}),
	} {
		if got, bad := Read(b); got != (Command{}) || bad != api.ErrForm {
			t.Error(name, got, bad)
		}
	}
	twice := bytes.Clone(submit)
	twice[len(twice)-1] = 4
	if _, bad := Read(twice); bad != api.ErrForm {
		t.Error("held of 2")
	}
}

func TestReplies(t *testing.T) { // P22.4
	if got := PutReply(Reply{api.ErrFull, 3, 64}); !bytes.Equal(got, []byte{30, 6, 0x80, 1}) {
		t.Errorf("% x", got)
	}
	for r, right := range map[Reply]bool{
		{}: true, {99, 1 << 30, top}: true, {100, 0, 0}: false, {-1, 0, 0}: false, {0, -1, 0}: false, {0, 1<<30 + 1, 0}: false, {0, 0, -1}: false, {0, 0, top + 1}: false, {math.MaxInt, math.MinInt, math.MaxInt64}: false,
	} {
		got, bad := ReadReply(PutReply(r))
		if right && (got != r || bad != api.OK) || !right && (got != (Reply{}) || bad != api.ErrForm) {
			t.Error(r, got, bad)
		}
	}
	for _, b := range [][]byte{nil, {0, 0}, {0, 0, 0, 0}, {0x80, 0, 0, 0}} {
		if got, bad := ReadReply(b); got != (Reply{}) || bad != api.ErrForm {
			t.Error(b, bad)
		}
	}
}

func TestNames(t *testing.T) { // P22.5
	for i, name := range []string{"submit", "cancel", "hold", "release", "limit", "reserve", "unreserve", "drain", "undrain", "tick", "tell", "exit"} {
		if k, ok := Of(name); Name(i+1) != name || k != i+1 || !ok {
			t.Error(name)
		}
	}
	for _, k := range []int{0, 13, -1, math.MinInt, math.MaxInt} {
		if Name(k) != "" {
			t.Error(k)
		}
	}
	for _, name := range []string{"", "Submit", "exit ", "queue"} {
		if k, ok := Of(name); k != 0 || ok {
			t.Error(name)
		}
	}
}
