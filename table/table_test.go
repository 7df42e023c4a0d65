package table

import (
	"bytes"
	"math"
	"slices"
	"testing"

	"berthing/api"
	"berthing/coding"
	"berthing/job"
)

const never = api.Never

func some() job.Job { return job.Job{User: 1, Width: 2, Limit: 5, Plan: never, Promise: never} }

func after(id int) job.Job {
	j := some()
	j.After = id
	return j
}

func add(t *testing.T, tab *Table, j job.Job) int {
	t.Helper()
	id, bad := tab.Add(j)
	if bad != api.OK {
		t.Fatal("Add", bad)
	}
	return id
}

// stop lets a job of a table be over.
func stop(t *testing.T, tab *Table, id, how int) {
	t.Helper()
	j, _ := tab.Get(id)
	if how == job.Done || how == job.Expired {
		j, _ = j.Begin(0, 3)
	}
	j, bad := j.Stop(9, how)
	if bad != api.OK || tab.Set(j) != api.OK {
		t.Fatal("stop", id, how, bad)
	}
}

func numbers(l []job.Job) []int {
	var ids []int
	for _, j := range l {
		ids = append(ids, j.Id)
	}
	return ids
}

func TestNew(t *testing.T) { // P16.1
	tab := New()
	if tab.Next() != 1 || tab.Len() != 0 || len(tab.All()) != 0 {
		t.Error("New")
	}
	add(t, tab, some())
	c := tab.Clone()
	stop(t, tab, 1, job.Cancelled)
	add(t, tab, some())
	if j, _ := c.Get(1); c.Len() != 1 || c.Next() != 2 || j.State != job.Waiting {
		t.Error("Clone")
	}
	for _, none := range []*Table{nil, {}} {
		_, a := none.Add(job.Job{})
		_, g := none.Get(1)
		if a != api.ErrNil || g != api.ErrNil || none.Set(job.Job{}) != api.ErrNil || none.Clone() != nil || none.Next() != 0 || none.Len() != 0 || len(none.All()) != 0 || len(none.Broken()) != 0 || none.Waits(after(1)) || !bytes.Equal(none.Put([]byte{7}), []byte{7}) {
			t.Error("of none")
		}
		for range none.In(job.Waiting) {
			t.Error("In of none")
		}
	}
}

func TestAdd(t *testing.T) { // P16.2
	tab := New()
	for i := range 3 {
		if add(t, tab, some()) != i+1 {
			t.Error("numbers")
		}
	}
	wrong, over := some(), some()
	wrong.User, wrong.State = 0, job.Cancelled
	over.State = job.Failed
	both := wrong
	both.After = 9
	for _, c := range []struct {
		j   job.Job
		bad api.Errno
	}{{both, api.ErrNone}, {after(4), api.ErrNone}, {after(-1), api.ErrNone}, {wrong, api.ErrForm}, {over, api.ErrState}, {after(3), api.OK}} {
		id, bad := tab.Add(c.j)
		if bad != c.bad || bad != api.OK && (id != 0 || tab.Len() != 3 || tab.Next() != 4) {
			t.Error(c, id, bad)
		}
	}
	given := some()
	given.Id = 77
	if id := add(t, tab, given); id != 5 {
		t.Error("the number is the table's", id)
	}
	if j, bad := tab.Get(4); bad != api.OK || j.After != 3 || j.Id != 4 {
		t.Error(j, bad)
	}
	running, _ := some().Begin(0, 3)
	running.Id = 1
	running, _ = running.Begin(0, 3)
	j := some()
	j.Id = 1
	if j, _ = j.Begin(3, 3); add(t, tab, j) != 6 {
		t.Error("a running one")
	}
}

func TestSetAndGet(t *testing.T) { // P16.2
	tab := New()
	add(t, tab, some())
	wrong := some()
	wrong.Id, wrong.Width = 2, 0
	if tab.Set(wrong) != api.ErrNone {
		t.Error("ErrNone comes first")
	}
	wrong.Id = 1
	if j, _ := tab.Get(1); tab.Set(wrong) != api.ErrForm || j.Width != 2 {
		t.Error("ErrForm")
	}
	for _, id := range []int{0, 2, -1, math.MaxInt, math.MinInt} {
		if j, bad := tab.Get(id); bad != api.ErrNone || j != (job.Job{}) {
			t.Error(id, bad)
		}
	}
	j, _ := tab.Get(1)
	j.Hold = true
	if got := tab.Set(j); got != api.OK {
		t.Error(got)
	}
	if got, _ := tab.Get(1); got != j {
		t.Error(got)
	}
}

func full(t *testing.T) *Table {
	tab := New()
	for range api.MaxJobs {
		add(t, tab, some())
	}
	return tab
}

func TestOldOnesGo(t *testing.T) { // P16.2, P16.5
	tab := full(t)
	if id, bad := tab.Add(some()); bad != api.ErrFull || id != 0 || tab.Len() != 64 || tab.Next() != 65 {
		t.Error(id, bad)
	}
	stop(t, tab, 9, job.Cancelled)
	stop(t, tab, 5, job.Done)
	over := some()
	over.State = job.Failed
	if _, bad := tab.Add(over); bad != api.ErrState || tab.Len() != 64 {
		t.Error("an error lets one go", bad)
	}
	if add(t, tab, some()) != 65 || tab.Len() != 64 {
		t.Error("the 65th")
	}
	if _, bad := tab.Get(5); bad != api.ErrNone {
		t.Error("the least number goes first")
	}
	if add(t, tab, after(9)) != 66 { // the one that it would wait for goes, as it is old by then
		t.Error("the 66th")
	}
	if _, bad := tab.Get(9); bad != api.ErrNone || tab.Waits(after(9)) {
		t.Error("9 did not go")
	}
	if _, bad := tab.Add(some()); bad != api.ErrFull {
		t.Error("one that waits went")
	}
}

func TestWaitedForStays(t *testing.T) { // P16.2, P16.5
	tab := New()
	add(t, tab, some())
	add(t, tab, after(1))
	for range 62 {
		add(t, tab, some())
	}
	stop(t, tab, 1, job.Failed)
	if _, bad := tab.Add(some()); bad != api.ErrFull {
		t.Error("one for which another one waits went")
	}
	stop(t, tab, 2, job.Cancelled)
	add(t, tab, some())
	if _, bad := tab.Get(1); bad != api.ErrNone {
		t.Error("1 did not go")
	}
	tab = New()
	add(t, tab, some())
	add(t, tab, after(1))
	for range 62 {
		add(t, tab, some())
	}
	stop(t, tab, 1, job.Done)
	add(t, tab, some())
	if _, bad := tab.Get(1); bad != api.ErrNone {
		t.Error("one that is done is waited for by none")
	}
}

func TestLastNumber(t *testing.T) { // P16.2
	b := append(coding.PutInt(nil, 1<<30), 0)
	tab, _, bad := Read(b)
	last := some()
	last.User = 0
	if _, bad := tab.Add(last); bad != api.ErrForm {
		t.Error(bad)
	}
	if bad != api.OK || add(t, tab, some()) != 1<<30 {
		t.Fatal(bad)
	}
	wrong, over := some(), some()
	wrong.User, over.State = 0, job.Done
	for _, c := range []struct {
		j   job.Job
		bad api.Errno
	}{{some(), api.ErrFull}, {wrong, api.ErrFull}, {over, api.ErrState}, {after(7), api.ErrNone}} {
		if id, bad := tab.Add(c.j); bad != c.bad || id != 0 {
			t.Error(c, bad)
		}
	}
	if tab.Next() != 1<<30+1 {
		t.Error(tab.Next())
	}
}

func TestLists(t *testing.T) { // P16.3
	tab := New()
	for _, j := range []job.Job{some(), after(1), after(1), after(2), some(), after(5), after(5)} {
		add(t, tab, j)
	}
	stop(t, tab, 1, job.Expired)
	stop(t, tab, 3, job.Cancelled)
	stop(t, tab, 5, job.Done)
	held, _ := tab.Get(2)
	held.Hold = true
	tab.Set(held)
	if !slices.Equal(numbers(tab.All()), []int{1, 2, 3, 4, 5, 6, 7}) {
		t.Error(tab.All())
	}
	for state, want := range map[int][]int{job.Waiting: {2, 4, 6, 7}, job.Running: nil, job.Expired: {1}, job.Cancelled: {3}, job.Done: {5}, 9: nil, -1: nil} {
		if got := numbers(slices.Collect(tab.In(state))); !slices.Equal(got, want) {
			t.Error(state, got)
		}
	}
	for range tab.In(job.Waiting) {
		break
	}
	if !slices.Equal(tab.Broken(), []int{2}) {
		t.Error(tab.Broken())
	}
	for after, want := range map[int]bool{0: false, 1: true, 2: true, 3: true, 4: true, 5: false, 9: false, -1: false, math.MinInt: false} {
		if tab.Waits(job.Job{After: after}) != want {
			t.Error(after)
		}
	}
}

func TestBytes(t *testing.T) { // P16.4
	tab := New()
	add(t, tab, some())
	add(t, tab, after(1))
	one, _ := tab.Get(1)
	two, _ := tab.Get(2)
	want := job.Put(job.Put([]byte{9, 6, 4}, one), two)
	if got := tab.Put([]byte{9}); !bytes.Equal(got, want) {
		t.Errorf("% x", got)
	}
	room := append(make([]byte, 0, 9999), 9)
	if tab.Put(room); room[:2][1] != 0 {
		t.Error("spare room was written")
	}
	if got, n, bad := Read(New().Put(nil)); bad != api.OK || n != 2 || got.Next() != 1 {
		t.Error("an empty one", n, bad)
	}
	b := tab.Put(nil)
	got, n, bad := Read(append(bytes.Clone(b), 5, 5))
	if bad != api.OK || n != len(b) || !bytes.Equal(got.Put(nil), b) {
		t.Error(n, bad)
	}
	wrong := one
	wrong.Limit = 0
	for name, b := range map[string][]byte{
		"nothing": nil, "next 0": {0, 0}, "next below 0": {1, 0}, "too great a next": append(coding.PutInt(nil, 1<<30+2), 0), "many below 0": {6, 1}, "a job is missing": {6, 2},
		"too many": append(coding.PutInt(nil, 100), coding.PutInt(nil, 65)...), "a number that is not below": job.Put([]byte{2, 2}, one), "not rising": job.Put(job.Put([]byte{6, 4}, two), one),
		"twice": job.Put(job.Put([]byte{6, 4}, one), one), "a wrong job": job.Put([]byte{6, 2}, wrong), "cut": b[:len(b)-1],
	} {
		if got, n, bad := Read(b); bad != api.ErrForm || got != nil || n != 0 {
			t.Error(name, bad)
		}
	}
	most := full(t)
	if got, _, bad := Read(most.Put(nil)); bad != api.OK || got.Len() != 64 {
		t.Error(bad)
	}
	if got, n, bad := Read(append(coding.PutInt(nil, 1<<30+1), 0)); bad != api.OK || n != 6 || got.Next() != 1<<30+1 {
		t.Error(n, bad)
	}
}

func TestNumbersRise(t *testing.T) { // P16.5
	tab := New()
	last := 0
	for i := range 400 {
		id := add(t, tab, some())
		if id <= last {
			t.Fatal(id, last)
		}
		last = id
		if i%3 != 0 || tab.Len() > 60 {
			for j := range tab.In(job.Waiting) {
				stop(t, tab, j.Id, job.Cancelled)
				break
			}
		}
	}
}
