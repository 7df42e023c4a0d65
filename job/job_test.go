package job

import (
	"bytes"
	"math"
	"testing"

	"berthing/api"
	"berthing/bits"
	"berthing/coding"
)

const never = api.Never

func waiting() Job {
	return Job{Id: 5, User: 2, Part: 1, Width: 2, Limit: 10, Nice: -3, After: 4, Sent: 7, Plan: 20, Promise: 30, Tries: 1, Black: bits.Of(0)}
}

func running() Job {
	j, _ := waiting().Begin(20, bits.Of(1, 3))
	return j
}

func ended(how int) Job {
	j, _ := running().Stop(25, how)
	return j
}

func TestRight(t *testing.T) { // P15.1
	for _, j := range []Job{waiting(), running(), ended(Done), ended(Expired)} {
		if !j.Right() {
			t.Error(j)
		}
		for what, change := range map[string]func(*Job){
			"id 0": func(j *Job) { j.Id, j.After = 0, -1 }, "id": func(j *Job) { j.Id = 1<<30 + 1 }, "user 0": func(j *Job) { j.User = 0 }, "user": func(j *Job) { j.User = 17 },
			"part below": func(j *Job) { j.Part = -1 }, "part": func(j *Job) { j.Part = 4 }, "width 0": func(j *Job) { j.Width, j.Nodes = 0, 0 }, "width": func(j *Job) { j.Width = 65 },
			"limit 0": func(j *Job) { j.Limit = 0 }, "limit": func(j *Job) { j.Limit = 1<<20 + 1 }, "nice": func(j *Job) { j.Nice = 101 }, "nice below": func(j *Job) { j.Nice = -101 },
			"after itself": func(j *Job) { j.After = 5 }, "after below": func(j *Job) { j.After = -1 }, "state": func(j *Job) { j.State = 6 }, "state below": func(j *Job) { j.State = -1 },
			"sent": func(j *Job) { j.Sent = -1 }, "plan": func(j *Job) { j.Plan = never + 1 }, "promise": func(j *Job) { j.Promise = -1 }, "start": func(j *Job) { j.Start = -1 }, "end": func(j *Job) { j.End = never + 1 },
			"tries below": func(j *Job) { j.Tries = -1 }, "tries": func(j *Job) { j.Tries = 10 },
		} {
			c := j
			if change(&c); c.Right() {
				t.Error(what, c)
			}
		}
		for what, change := range map[string]func(*Job){
			"greatest": func(j *Job) {
				j.Id, j.User, j.Part, j.Limit, j.Nice, j.After, j.Sent, j.Plan, j.Promise, j.Tries = 1<<30, 16, 3, 1<<20, 100, 1<<30-1, never, never, never, 9
			},
			"least": func(j *Job) {
				j.Id, j.User, j.Part, j.Limit, j.Nice, j.After, j.Sent, j.Plan, j.Promise, j.Tries = 1, 1, 0, 1, -100, 0, 0, 0, 0, 1
			},
		} {
			c := j
			if change(&c); !c.Right() {
				t.Error(what, c)
			}
		}
	}
	if j := waiting(); !(Job{Id: 1, User: 1, Width: 1, Limit: 1}).Right() || !(Job{Id: 1, User: 1, Width: 64, Limit: 1}).Right() || j.State != 0 {
		t.Error("widths")
	}
	for what, change := range map[string]func(*Job){"nodes": func(j *Job) { j.Nodes = 6 }, "start": func(j *Job) { j.Start = 1 }, "end": func(j *Job) { j.End = 1 }} {
		j := waiting()
		if change(&j); j.Right() {
			t.Error("waiting", what)
		}
	}
	for what, change := range map[string]func(*Job){
		"held": func(j *Job) { j.Hold = true }, "few nodes": func(j *Job) { j.Nodes = 2 }, "many": func(j *Job) { j.Nodes = 14 }, "barred": func(j *Job) { j.Black = 2 },
		"no tries": func(j *Job) { j.Tries = 0 }, "start": func(j *Job) { j.Start = never }, "end": func(j *Job) { j.End = 21 },
	} {
		j := running()
		if change(&j); j.Right() {
			t.Error("running", what)
		}
	}
	for what, c := range map[string]struct {
		change func(*Job)
		right  bool
	}{
		"start behind end": {func(j *Job) { j.Start = 26 }, false}, "at once": {func(j *Job) { j.Start = 25 }, true}, "never": {func(j *Job) { j.Start, j.End = never, never }, true}, "few nodes": {func(j *Job) { j.Nodes = 2 }, false},
		"no tries but nodes": {func(j *Job) { j.Tries = 0 }, false}, "no tries": {func(j *Job) { j.Tries, j.Nodes = 0, 0 }, true}, "held": {func(j *Job) { j.Hold = true }, true}, "barred": {func(j *Job) { j.Black = 2 }, true},
	} {
		j := ended(Failed)
		if c.change(&j); j.Right() != c.right {
			t.Error("ended", what)
		}
	}
}

func TestOverAndUntil(t *testing.T) { // P15.1
	for state, over := range map[int]bool{Waiting: false, Running: false, Done: true, Failed: true, Cancelled: true, Expired: true, 6: false, -1: false} {
		j := Job{State: state, Start: 5, Limit: 8}
		until := api.Time(0)
		if state == Running {
			until = 13
		}
		if j.Over() != over || j.Until() != until {
			t.Error(state)
		}
	}
	if (Job{State: Running, Start: never - 1, Limit: 5}).Until() != never || (Job{State: Running, Start: math.MinInt64, Limit: math.MaxInt64}).Until() != never {
		t.Error("Until")
	}
}

func TestBegin(t *testing.T) { // P15.2
	want := waiting()
	want.State, want.Nodes, want.Start, want.Tries = Running, bits.Of(1, 3), 20, 2
	if j, bad := waiting().Begin(20, bits.Of(1, 3)); bad != api.OK || j != want {
		t.Error(bad, j)
	}
	wrong, held, tried := waiting(), waiting(), waiting()
	wrong.Width, held.Hold, tried.Tries = 0, true, 9
	for _, c := range []struct {
		j     Job
		now   api.Time
		nodes bits.Set
		bad   api.Errno
	}{
		{wrong, -1, 0, api.ErrForm}, {Job{}, 0, 0, api.ErrForm}, {held, -1, 0, api.ErrState}, {running(), -1, 0, api.ErrState}, {ended(Done), 30, 6, api.ErrState},
		{waiting(), -1, 0, api.ErrLate}, {waiting(), never, 0, api.ErrLate}, {waiting(), never + 1, 0, api.ErrLate}, {tried, 5, 2, api.ErrArg}, {waiting(), 5, 14, api.ErrArg}, {waiting(), 5, 3, api.ErrArg},
		{tried, 5, 6, api.ErrFull}, {waiting(), never - 1, 6, api.OK}, {waiting(), 0, 6, api.OK},
	} {
		if j, bad := c.j.Begin(c.now, c.nodes); bad != c.bad || bad != api.OK && j != (Job{}) {
			t.Error(c, bad)
		}
	}
}

func TestStop(t *testing.T) { // P15.3
	want := running()
	want.State, want.End = Cancelled, 25
	if j, bad := running().Stop(25, Cancelled); bad != api.OK || j != want {
		t.Error(bad, j)
	}
	want = waiting()
	want.State, want.Start, want.End, want.Tries = Failed, 25, 25, 0
	if j, bad := waiting().Stop(25, Failed); bad != api.OK || j != want {
		t.Error(bad, j)
	}
	wrong := waiting()
	wrong.User = 0
	for _, c := range []struct {
		j   Job
		now api.Time
		how int
		bad api.Errno
	}{
		{wrong, 0, 9, api.ErrForm}, {ended(Done), -1, 1, api.ErrArg}, {running(), -1, 6, api.ErrArg}, {running(), -1, 0, api.ErrArg}, {running(), 25, math.MinInt, api.ErrArg},
		{ended(Done), -1, Done, api.ErrState}, {waiting(), -1, Done, api.ErrState}, {waiting(), -1, Expired, api.ErrState}, {waiting(), -1, Cancelled, api.ErrLate}, {waiting(), never + 1, Failed, api.ErrLate},
		{running(), 19, Done, api.ErrLate}, {running(), never + 1, Done, api.ErrLate}, {running(), 20, Done, api.OK}, {running(), never, Expired, api.OK}, {waiting(), never, Cancelled, api.OK},
	} {
		if j, bad := c.j.Stop(c.now, c.how); bad != c.bad || bad != api.OK && j != (Job{}) {
			t.Error(c, bad)
		}
	}
}

func TestLose(t *testing.T) { // P15.4
	want := running()
	want.State, want.Nodes, want.Start, want.Plan, want.Promise, want.Black = Waiting, 0, 0, never, never, bits.Of(0, 3)
	if j, bad := running().Lose(25, 3, 2); bad != api.OK || j != want {
		t.Error(bad, j)
	}
	want = running()
	want.State, want.End = Failed, 25
	for _, retries := range []int{1, 0, -1, math.MinInt} {
		if j, bad := running().Lose(25, 3, retries); bad != api.OK || j != want {
			t.Error(retries, bad, j)
		}
	}
	for _, c := range []struct {
		j    Job
		now  api.Time
		node int
		bad  api.Errno
	}{
		{Job{}, -1, 9, api.ErrForm}, {waiting(), -1, 9, api.ErrState}, {ended(Done), -1, 9, api.ErrState}, {running(), -1, 2, api.ErrNone}, {running(), -1, -1, api.ErrNone}, {running(), -1, 65, api.ErrNone},
		{running(), 19, 1, api.ErrLate}, {running(), -1, 1, api.ErrLate}, {running(), never + 1, 1, api.ErrLate}, {running(), 20, 1, api.OK}, {running(), never, 1, api.OK},
	} {
		if j, bad := c.j.Lose(c.now, c.node, 9); bad != c.bad || bad != api.OK && j != (Job{}) {
			t.Error(c, bad)
		}
	}
}

func TestBytes(t *testing.T) { // P15.5
	j := running()
	want := []byte{9}
	for _, v := range []int64{5, 2, 1, 2, 10, -3, 4, 0, 1, 7, 20, 30, 2, 1, 10, 20, 0} {
		want = coding.PutInt(want, v)
	}
	room := append(make([]byte, 0, 99), 9)
	if got := Put(room, j); !bytes.Equal(got, want) || room[:2][1] != 0 {
		t.Errorf("% x", got)
	}
	held := waiting()
	held.Hold, held.Black = true, 1<<63|1
	for _, j := range []Job{j, held, ended(Done)} {
		b := append(Put(nil, j), 1, 2, 3)
		if got, n, bad := Read(b); got != j || n != len(b)-3 || bad != api.OK {
			t.Error(got, n, bad)
		}
	}
	wrong := j
	wrong.Width = 3
	b := Put(nil, j)
	long := append([]byte{0x8a, 0}, b[1:]...)
	hold := bytes.Clone(b)
	hold[7] = 4
	for name, b := range map[string][]byte{"nothing": nil, "a wrong job": Put(nil, wrong), "a byte is missing": b[:len(b)-1], "a long form": long, "hold of 2": hold, "a plain one": Put(nil, Job{})} {
		if got, n, bad := Read(b); got != (Job{}) || n != 0 || bad != api.ErrForm {
			t.Error(name, got, n, bad)
		}
	}
	for state, want := range []string{"waiting", "running", "done", "failed", "cancelled", "expired"} {
		if Text(state) != want {
			t.Error(state, Text(state))
		}
	}
	if Text(-1) != "" || Text(6) != "" || Text(math.MaxInt) != "" || Text(math.MinInt) != "" {
		t.Error("Text")
	}
}

func TestStaysRight(t *testing.T) { // P15.6
	jobs := []Job{waiting(), running(), ended(Failed)}
	k := uint32(1)
	next := func(n uint32) int { k = k*1664525 + 1013904223; return int((k >> 8) % n) }
	for range 20000 {
		j := jobs[next(uint32(len(jobs)))]
		now := api.Time(next(40)) - 2
		var bad api.Errno
		switch next(3) {
		case 0:
			j, bad = j.Begin(now, bits.Set(next(16)))
		case 1:
			j, bad = j.Stop(now, next(7))
		case 2:
			j, bad = j.Lose(now, next(5), next(4))
		}
		if bad != api.OK {
			continue
		}
		if !j.Right() {
			t.Fatal(j)
		}
		if got, _, bad := Read(Put(nil, j)); got != j || bad != api.OK {
			t.Fatal(j)
		}
		if len(jobs) < 500 {
			jobs = append(jobs, j)
		}
	}
}
