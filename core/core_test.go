package core

import (
	"bytes"
	"math"
	"slices"
	"testing"

	"berthing/api"
	"berthing/bits"
	"berthing/books"
	"berthing/cmd"
	"berthing/coding"
	"berthing/fleet"
	"berthing/health"
	"berthing/job"
	"berthing/parse"
	"berthing/plan"
	"berthing/prio"
	"berthing/resv"
	"berthing/roll"
	"berthing/table"
	"berthing/tick"
	"berthing/usage"
)

const never = api.Never

func conf(parts ...Part) Conf {
	return Conf{Parts: parts, Rules: health.Rules{Suspect: 1, Down: 2, Probation: 1}, Retries: 1, Half: 100, Weights: prio.Weights{Age: 1}}
}

func state(t *testing.T, c Conf) *State {
	t.Helper()
	s, bad := New(c)
	if bad != api.OK {
		t.Fatal("New", bad)
	}
	return s
}

func four(t *testing.T) *State { return state(t, conf(Part{4, 1})) }

// do does what a line asks for.
func do(t *testing.T, s *State, line string) (cmd.Reply, []Event) {
	t.Helper()
	l, bad := parse.Parse(line)
	if bad != api.OK {
		t.Fatal(line, bad)
	}
	return s.Do(l.Command)
}

// ok does what lines ask for, and tells the events of the last one.
func ok(t *testing.T, s *State, lines ...string) []Event {
	t.Helper()
	var events []Event
	for _, line := range lines {
		r, l := do(t, s, line)
		if r.Code != api.OK {
			t.Fatal(line, r)
		}
		events = l
	}
	return events
}

// says looks at the reply to a line.
func says(t *testing.T, s *State, line string, want cmd.Reply) {
	t.Helper()
	was := s.Put()
	r, l := do(t, s, line)
	if r != want {
		t.Error(line, r, "not", want)
	}
	if r.Code != api.OK && (len(l) != 0 || !bytes.Equal(s.Put(), was)) {
		t.Error(line, "an error changed something")
	}
}

func get(t *testing.T, s *State, id int) job.Job {
	t.Helper()
	j, bad := s.Jobs().Get(id)
	if bad != api.OK {
		t.Fatal(id, bad)
	}
	return j
}

func count(t *testing.T, s *State, user, what int) int {
	t.Helper()
	l, _ := s.Books().Line(user)
	return l.Count[what]
}

func TestNew(t *testing.T) { // P24.1
	good := conf(Part{4, 1})
	for name, change := range map[string]func(*Conf){
		"no parts": func(c *Conf) { c.Parts = nil }, "five parts": func(c *Conf) { c.Parts = make([]Part, 5) }, "no nodes": func(c *Conf) { c.Parts = []Part{{4, 1}, {0, 0}} }, "65 nodes": func(c *Conf) { c.Parts = []Part{{65, 1}} },
		"all spares": func(c *Conf) { c.Parts = []Part{{4, 4}} }, "spares below 0": func(c *Conf) { c.Parts = []Part{{4, -1}} }, "rules": func(c *Conf) { c.Rules.Down = 1 }, "retries below 0": func(c *Conf) { c.Retries = -1 }, "retries": func(c *Conf) { c.Retries = 8 },
		"half 0": func(c *Conf) { c.Half = 0 }, "half": func(c *Conf) { c.Half = never + 1 }, "weights": func(c *Conf) { c.Weights.Nice = 1001 }, "plain": func(c *Conf) { *c = Conf{} },
	} {
		c := good
		change(&c)
		if s, bad := New(c); bad != api.ErrArg || s != nil {
			t.Error(name, bad)
		}
	}
	good.Parts = []Part{{64, 63}, {1, 0}, {2, 1}, {3, 0}}
	good.Retries, good.Half = 7, never
	s := state(t, good)
	if s.Now() != 0 || s.Revoked() != 0 || s.Jobs().Len() != 0 || len(s.Books().Lines()) != 0 || s.Fleet(0).Len() != 64 || s.Fleet(0).Spares().Len() != 63 || s.Fleet(4) != nil || s.Fleet(-1) != nil {
		t.Error("New")
	}
	if _, rolls := s.Roll(0); rolls || len(s.Resvs(0)) != 0 || s.Lack(0) != 0 || s.Books().Half() != never {
		t.Error("New")
	}
	good.Parts[0].Nodes = 5
	s.Conf().Parts[1].Nodes = 5
	if c := s.Conf(); c.Parts[0].Nodes != 64 || c.Parts[1].Nodes != 1 || c.Retries != 7 {
		t.Error("Conf is kept")
	}
}

func TestNone(t *testing.T) { // P24.1, P24.2
	for _, s := range []*State{nil, {}} {
		r, l := s.Do(cmd.Command{})
		_, rolls := s.Roll(0)
		if r != (cmd.Reply{Code: api.ErrNil}) || len(l) != 0 || s.Clone() != nil || s.Now() != 0 || len(s.Conf().Parts) != 0 || s.Jobs() != nil || s.Books() != nil || s.Fleet(0) != nil || len(s.Resvs(0)) != 0 || rolls || s.Lack(0) != 0 || s.Revoked() != 0 {
			t.Error("of none")
		}
		if s.Busy(0) != 0 || s.Base(0) != nil || len(s.Wants(0)) != 0 || len(s.Put()) != 0 {
			t.Error("of none")
		}
	}
	s := four(t)
	for _, part := range []int{-1, 1, math.MinInt, math.MaxInt} {
		if _, rolls := s.Roll(part); s.Fleet(part) != nil || len(s.Resvs(part)) != 0 || rolls || s.Lack(part) != 0 || s.Busy(part) != 0 || s.Base(part) != nil || len(s.Wants(part)) != 0 {
			t.Error("part", part)
		}
	}
}

func TestClone(t *testing.T) { // P24.1
	s := four(t)
	ok(t, s, "submit user=1 width=3 limit=10", "submit user=2 width=1 limit=5", "reserve from=50 many=5 width=3", "drain width=1", "tell node=3 what=miss")
	c := s.Clone()
	was := c.Put()
	if !bytes.Equal(s.Put(), was) {
		t.Error("not the same")
	}
	ok(t, s, "tick to=12", "undrain", "unreserve id=1", "tell node=0 what=miss", "submit user=3 width=1 limit=1")
	if !bytes.Equal(c.Put(), was) {
		t.Error("memory is shared")
	}
}

func TestRefused(t *testing.T) { // P24.2
	s := four(t)
	for _, c := range []cmd.Command{{}, {Kind: 13}, {Kind: cmd.Submit}, {Kind: cmd.Cancel, Part: 9}, {Kind: cmd.Tick, Time: -1}, {Kind: cmd.Submit, User: 1, Width: 1, Time: 1, Part: 4}} {
		if r, l := s.Do(c); r != (cmd.Reply{Code: api.ErrArg}) || len(l) != 0 {
			t.Error(c, r)
		}
	}
	for _, line := range []string{"submit user=1 width=99999 limit=1 part=1", "reserve from=0 many=1 width=1 part=3", "unreserve id=1 part=2", "drain width=64 part=1", "undrain part=1", "tell node=63 what=take part=1"} {
		l, bad := parse.Parse(line)
		if bad == api.OK {
			says(t, s, line, cmd.Reply{Code: api.ErrNone})
			l.Command.Part = 0
		}
	}
	if r, _ := s.Do(cmd.Command{Kind: cmd.Tick, Time: 3, Part: 9, Id: -4}); r.Code != api.OK || s.Now() != 3 {
		t.Error("what does not count", r)
	}
}

func TestSubmit(t *testing.T) { // P24.2, example 1
	s := four(t)
	says(t, s, "submit user=1 width=4 limit=10 after=7", cmd.Reply{Code: api.ErrBig})
	says(t, s, "submit user=1 width=3 limit=10 after=7", cmd.Reply{Code: api.ErrNone})
	says(t, s, "submit user=1 width=3 limit=10", cmd.Reply{Id: 1})
	says(t, s, "submit user=1 width=1 limit=5 nice=3", cmd.Reply{Id: 2, At: 10})
	says(t, s, "submit user=1 width=1 limit=5 hold", cmd.Reply{Id: 3, At: never})
	says(t, s, "submit user=2 width=1 limit=5 after=2", cmd.Reply{Id: 4, At: never})
	if j := get(t, s, 1); j != (job.Job{Id: 1, User: 1, Width: 3, Limit: 10, State: job.Running, Tries: 1, Nodes: bits.Of(0, 1, 2)}) {
		t.Error(j)
	}
	if j := get(t, s, 2); j != (job.Job{Id: 2, User: 1, Width: 1, Limit: 5, Nice: 3, Plan: 10, Promise: 10}) {
		t.Error(j)
	}
	if j := get(t, s, 4); j.After != 2 || j.Plan != never || j.Promise != never {
		t.Error(j)
	}
	if count(t, s, 1, books.Submitted) != 3 || count(t, s, 1, books.Started) != 1 || count(t, s, 2, books.Submitted) != 1 {
		t.Error("not noted")
	}
	ok(t, s, "tick to=3")
	if ok(t, s, "submit user=3 width=1 limit=5"); get(t, s, 5).Sent != 3 {
		t.Error("Sent")
	}
	for s.Jobs().Len() < api.MaxJobs {
		ok(t, s, "submit user=16 width=1 limit=5 hold")
	}
	says(t, s, "submit user=1 width=3 limit=10", cmd.Reply{Code: api.ErrFull})
}

func TestCancelAndExit(t *testing.T) { // P24.2, P24.5
	s := four(t)
	ok(t, s, "submit user=1 width=3 limit=10", "submit user=2 width=1 limit=5", "submit user=2 width=2 limit=5 hold", "tick to=4")
	for _, line := range []string{"cancel id=9", "exit id=9", "hold id=9", "release id=9", "limit id=9 limit=1"} {
		says(t, s, line, cmd.Reply{Code: api.ErrNone})
	}
	says(t, s, "exit id=2", cmd.Reply{Code: api.ErrState})
	says(t, s, "exit id=3", cmd.Reply{Code: api.ErrState})
	says(t, s, "cancel id=3", cmd.Reply{Id: 3})
	if j := get(t, s, 3); j.State != job.Cancelled || j.End != 4 || count(t, s, 2, books.Cancelled) != 1 {
		t.Error(j)
	}
	l := ok(t, s, "exit id=1")
	want := []Event{{Job: 1, Try: 1, Nodes: bits.Of(0, 1, 2), At: 4, End: true, How: job.Done}, {Job: 2, Try: 1, Nodes: bits.Of(0), At: 4}}
	if !slices.Equal(l, want) {
		t.Error(l)
	}
	if line, _ := s.Books().Line(1); line.Count != [5]int{1, 1, 1, 0, 0} || line.Ticks != 12 || line.Share.Used != 12 || line.Share.Since != 4 {
		t.Error(line)
	}
	for _, line := range []string{"cancel id=1", "exit id=1", "hold id=1", "release id=1", "limit id=1 limit=1"} {
		says(t, s, line, cmd.Reply{Code: api.ErrState})
	}
	ok(t, s, "tick to=6")
	if l := ok(t, s, "cancel id=2"); !slices.Equal(l, []Event{{Job: 2, Try: 1, Nodes: bits.Of(0), At: 6, End: true, How: job.Cancelled}}) {
		t.Error(l)
	}
	if line, _ := s.Books().Line(2); line.Count != [5]int{2, 1, 0, 0, 2} || line.Ticks != 2 {
		t.Error(line)
	}
}

func TestHoldAndRelease(t *testing.T) { // P24.2
	s := four(t)
	ok(t, s, "submit user=1 width=3 limit=10", "submit user=2 width=1 limit=5")
	says(t, s, "hold id=1", cmd.Reply{Code: api.ErrState})
	says(t, s, "release id=1", cmd.Reply{Code: api.ErrState})
	says(t, s, "release id=2", cmd.Reply{Code: api.ErrState})
	says(t, s, "hold id=2", cmd.Reply{Id: 2})
	if j := get(t, s, 2); !j.Hold || j.Plan != never || j.Promise != never || len(s.Wants(0)) != 0 {
		t.Error(j)
	}
	says(t, s, "hold id=2", cmd.Reply{Code: api.ErrState})
	ok(t, s, "tick to=20")
	if get(t, s, 2).State != job.Waiting {
		t.Error("a held one began")
	}
	ok(t, s, "submit user=1 width=3 limit=10")
	says(t, s, "release id=2", cmd.Reply{Id: 2, At: 30})
	if get(t, s, 2).Hold || s.Revoked() != 0 {
		t.Error("Release")
	}
}

func TestLimit(t *testing.T) { // P24.2
	s := four(t)
	ok(t, s, "submit user=1 width=3 limit=10", "submit user=2 width=1 limit=5", "submit user=2 width=3 limit=5", "tick to=4")
	for _, line := range []string{"limit id=1 limit=10", "limit id=1 limit=11", "limit id=1 limit=4", "limit id=1 limit=1"} {
		says(t, s, line, cmd.Reply{Code: api.ErrState})
	}
	says(t, s, "limit id=2 limit=9", cmd.Reply{Id: 2, At: 20})
	if a, b := get(t, s, 2), get(t, s, 3); a.Plan != 15 || b.Plan != 10 || b.Promise != 15 || s.Revoked() != 0 {
		t.Error(a, b)
	}
	says(t, s, "limit id=1 limit=6", cmd.Reply{Id: 1, At: 6})
	if a, b := get(t, s, 2), get(t, s, 3); a.Plan != 11 || a.Promise != 20 || b.Plan != 6 || b.Promise != 15 || a.Limit != 9 {
		t.Error(a, b)
	}
	says(t, s, "limit id=1 limit=5", cmd.Reply{Id: 1, At: 5})
	ok(t, s, "hold id=2")
	says(t, s, "limit id=2 limit=1", cmd.Reply{Id: 2, At: never})
	if get(t, s, 3).Plan != 5 {
		t.Error(get(t, s, 3))
	}
}

func TestReserve(t *testing.T) { // P24.2, P24.3
	s := four(t)
	ok(t, s, "submit user=1 width=3 limit=10", "submit user=1 width=2 limit=10", "tick to=4")
	says(t, s, "reserve from=3 many=1 width=1", cmd.Reply{Code: api.ErrLate})
	says(t, s, "reserve from=4 many=1099511627775 width=1", cmd.Reply{Code: api.ErrArg})
	says(t, s, "reserve from=9 many=2 width=1", cmd.Reply{Code: api.ErrState})
	says(t, s, "reserve from=10 many=10 width=2", cmd.Reply{Code: api.ErrState})
	says(t, s, "reserve from=10 many=11 width=1", cmd.Reply{Id: 1})
	says(t, s, "reserve from=20 many=5 width=2", cmd.Reply{Id: 2})
	says(t, s, "reserve from=20 many=1 width=1", cmd.Reply{Code: api.ErrState})
	if !slices.Equal(s.Resvs(0), []resv.Resv{{Id: 1, T: tick.Span{From: 10, To: 21}, Width: 1}, {Id: 2, T: tick.Span{From: 20, To: 25}, Width: 2}}) {
		t.Error(s.Resvs(0))
	}
	says(t, s, "submit user=1 width=2 limit=5", cmd.Reply{Id: 3, At: 25})
	says(t, s, "unreserve id=3", cmd.Reply{Code: api.ErrNone})
	says(t, s, "unreserve id=2", cmd.Reply{Id: 2})
	if j := get(t, s, 3); j.Plan != 20 || j.Promise != 25 {
		t.Error(j)
	}
	ok(t, s, "tick to=20")
	if len(s.Resvs(0)) != 1 {
		t.Error("one that is not over went")
	}
	ok(t, s, "tick to=21")
	if len(s.Resvs(0)) != 0 {
		t.Error("one that is over stays")
	}
}

func TestDrain(t *testing.T) { // P24.2, P24.3
	s := four(t)
	ok(t, s, "submit user=1 width=2 limit=10")
	says(t, s, "drain width=4", cmd.Reply{Code: api.ErrBig})
	says(t, s, "undrain", cmd.Reply{Code: api.ErrNone})
	says(t, s, "drain width=2", cmd.Reply{At: 10})
	says(t, s, "drain width=9", cmd.Reply{Code: api.ErrThere})
	if r, rolls := s.Roll(0); !rolls || r != (roll.Roll{Width: 2, From: 10}) || s.Fleet(0).In(health.Drain) != 0 {
		t.Error(r)
	}
	says(t, s, "submit user=1 width=2 limit=5", cmd.Reply{Id: 2, At: never})
	says(t, s, "submit user=1 width=1 limit=5", cmd.Reply{Id: 3})
	ok(t, s, "tick to=10")
	if r, _ := s.Roll(0); r.Held != bits.Of(0, 1) || s.Fleet(0).In(health.Drain) != r.Held || s.Lack(0) != 0 {
		t.Error(r)
	}
	ok(t, s, "tell node=0 what=ready", "tell node=0 what=beat")
	if r, _ := s.Roll(0); r.Done != bits.Of(0) || r.Held != bits.Of(1, 2) {
		t.Error(r)
	}
	ok(t, s, "tell node=1 what=ready", "tell node=1 what=miss")
	if r, _ := s.Roll(0); r.Done != bits.Of(0) || r.Held != bits.Of(1, 2) || s.Lack(0) != 0 || s.Fleet(0).In(health.Down) != bits.Of(1) {
		t.Error(r)
	}
	ok(t, s, "tell node=1 what=mend", "tell node=1 what=beat", "tell node=2 what=ready", "tell node=2 what=beat", "tell node=3 what=ready")
	if r, _ := s.Roll(0); r.Done != bits.Of(0, 1, 2) || r.Held != bits.Of(3) {
		t.Error(r)
	}
	ok(t, s, "tell node=3 what=beat")
	if _, rolls := s.Roll(0); rolls || get(t, s, 2).State != job.Running {
		t.Error("a drain that is over stays")
	}
}

func TestDrainWaits(t *testing.T) { // P24.2, P24.3
	s := four(t)
	ok(t, s, "tell node=0 what=miss", "tell node=1 what=miss", "reserve from=5 many=1099511627770 width=1")
	says(t, s, "drain width=3", cmd.Reply{Code: api.ErrState})
	says(t, s, "drain width=2", cmd.Reply{At: never - 1})
	ok(t, s, "undrain", "unreserve id=1", "tell node=0 what=beat", "tell node=1 what=beat")
	says(t, s, "drain width=1", cmd.Reply{})
	if r, _ := s.Roll(0); r.Held != bits.Of(0) {
		t.Error("a drain that is on takes nodes at once", r)
	}
	says(t, s, "undrain", cmd.Reply{})
	if _, rolls := s.Roll(0); rolls || s.Fleet(0).In(health.Drain) != bits.Of(0) || s.Lack(0) != 0 {
		t.Error("Undrain")
	}
	ok(t, s, "drain width=1")
	if s.Fleet(0).In(health.Drain) != bits.Of(0, 1) || s.Lack(0) != 0 {
		t.Error("what no drain holds is outside", s.Lack(0))
	}
	ok(t, s, "tell node=2 what=miss")
	if s.Lack(0) != 1 {
		t.Error(s.Lack(0))
	}
}

func TestTell(t *testing.T) { // P24.2, P24.3, P24.5
	s := four(t)
	ok(t, s, "submit user=1 width=2 limit=10", "tick to=3")
	says(t, s, "tell node=4 what=take", cmd.Reply{Code: api.ErrNone})
	says(t, s, "tell node=3 what=take", cmd.Reply{Code: api.ErrArg})
	says(t, s, "tell node=1 what=miss", cmd.Reply{})
	if s.Fleet(0).In(health.Suspect) != bits.Of(1) || get(t, s, 1).State != job.Running || s.Fleet(0).Active() != bits.Of(0, 2, 3) {
		t.Error("Suspect")
	}
	l := ok(t, s, "tell node=1 what=miss")
	want := []Event{{Job: 1, Try: 1, Nodes: bits.Of(0, 1), At: 3, End: true, How: Lost}, {Job: 1, Try: 2, Nodes: bits.Of(0, 2), At: 3}}
	if !slices.Equal(l, want) {
		t.Error(l)
	}
	if Lost != 6 {
		t.Error("Lost")
	}
	if j := get(t, s, 1); j.Black != bits.Of(1) || j.Tries != 2 || j.Until() != 13 || j.Promise != 3 {
		t.Error(j)
	}
	if line, _ := s.Books().Line(1); line.Count != [5]int{1, 2, 0, 1, 0} || line.Ticks != 6 {
		t.Error(line)
	}
	ok(t, s, "tick to=5", "tell node=2 what=miss")
	if l := ok(t, s, "tell node=2 what=miss"); !slices.Equal(l, []Event{{Job: 1, Try: 2, Nodes: bits.Of(0, 2), At: 5, End: true, How: Lost}}) {
		t.Error(l)
	}
	if j := get(t, s, 1); j.State != job.Failed || j.End != 5 || count(t, s, 1, books.Killed) != 2 {
		t.Error(j)
	}
	if l := ok(t, s, "tell node=2 what=miss", "tell node=2 what=mend", "tell node=2 what=miss"); len(l) != 0 || s.Fleet(0).In(health.Down) != bits.Of(1, 2) {
		t.Error(l)
	}
}

func TestExpired(t *testing.T) { // P24.3, P24.4, P24.5
	s := state(t, conf(Part{4, 1}, Part{2, 0}))
	ok(t, s, "submit user=1 width=2 limit=10", "submit user=2 width=1 limit=10 part=1", "submit user=1 width=2 limit=7", "submit user=2 width=2 limit=3 after=3", "submit user=2 width=1 limit=3 after=4", "submit user=2 width=1 limit=2 after=1 hold", "submit user=3 width=1 limit=1 after=6")
	l := ok(t, s, "tick to=30")
	want := []Event{
		{Job: 1, Try: 1, Nodes: bits.Of(0, 1), At: 10, End: true, How: job.Expired}, {Job: 2, Part: 1, Try: 1, Nodes: bits.Of(0), At: 10, End: true, How: job.Expired}, {Job: 3, Try: 1, Nodes: bits.Of(0, 1), At: 10},
		{Job: 3, Try: 1, Nodes: bits.Of(0, 1), At: 17, End: true, How: job.Expired},
	}
	if !slices.Equal(l, want) || s.Now() != 30 {
		t.Error(l)
	}
	for id, at := range map[int]api.Time{4: 17, 5: 17, 6: 10, 7: 10} {
		if j := get(t, s, id); j.State != job.Cancelled || j.End != at {
			t.Error(j)
		}
	}
	if line, _ := s.Books().Line(2); line.Count != [5]int{4, 1, 0, 1, 3} || line.Ticks != 10 {
		t.Error(line)
	}
}

func TestAfter(t *testing.T) { // Words, P24.3
	s := four(t)
	ok(t, s, "submit user=1 width=1 limit=10", "submit user=1 width=1 limit=10 after=1")
	if len(s.Wants(0)) != 0 {
		t.Error("one that waits for another one may begin")
	}
	if l := ok(t, s, "exit id=1"); len(l) != 2 || l[1] != (Event{Job: 2, Try: 1, Nodes: bits.Of(0)}) {
		t.Error(l)
	}
}

func TestLackAndRevoked(t *testing.T) { // P24.3, P24.5
	s := four(t)
	ok(t, s, "submit user=1 width=3 limit=10", "submit user=2 width=3 limit=5", "submit user=2 width=2 limit=5", "tell node=3 what=miss")
	if s.Lack(0) != 0 || s.Revoked() != 0 || get(t, s, 2).Promise != 10 || get(t, s, 3).Promise != 15 {
		t.Error("a spare is not up")
	}
	ok(t, s, "tell node=0 what=miss")
	if a, b := get(t, s, 2), get(t, s, 3); s.Lack(0) != 1 || s.Revoked() != 1 || a.Plan != never || a.Promise != never || b.Plan != 10 || b.Promise != 15 {
		t.Error(s.Lack(0), s.Revoked(), a, b)
	}
	ok(t, s, "tell node=0 what=beat")
	if a, b := get(t, s, 2), get(t, s, 3); s.Lack(0) != 0 || s.Revoked() != 1 || a.Plan != 15 || a.Promise != 15 || b.Plan != 10 {
		t.Error(s.Lack(0), s.Revoked(), a, b)
	}
}

func TestTooFewNodes(t *testing.T) { // P24.3: due, but what is not barred is not up
	c := conf(Part{4, 1})
	c.Retries = 3
	s := state(t, c)
	ok(t, s, "submit user=1 width=2 limit=10", "tell node=0 what=miss", "tell node=0 what=miss", "tell node=0 what=mend", "tell node=0 what=beat", "submit user=2 width=1 limit=7")
	if j := get(t, s, 1); j.Nodes != bits.Of(1, 2) || j.Black != bits.Of(0) || get(t, s, 2).Nodes != bits.Of(3) {
		t.Fatal(j, get(t, s, 2))
	}
	ok(t, s, "tell node=1 what=miss")
	l := ok(t, s, "tell node=1 what=miss")
	if len(l) != 1 || l[0].How != Lost {
		t.Error(l)
	}
	if j := get(t, s, 1); s.Lack(0) != 0 || j.State != job.Waiting || j.Plan != 7 || j.Promise != 7 || s.Revoked() != 1 {
		t.Error(j, s.Revoked())
	}
	if l := ok(t, s, "tick to=7"); len(l) != 2 || l[1] != (Event{Job: 1, Try: 3, Nodes: bits.Of(2, 3), At: 7}) {
		t.Error(l)
	}
	s = state(t, c)
	ok(t, s, "submit user=1 width=2 limit=10", "tell node=0 what=miss", "tell node=0 what=miss", "tell node=0 what=mend", "tell node=0 what=beat", "submit user=2 width=1 limit=7", "tell node=1 what=miss", "submit user=3 width=3 limit=5")
	if get(t, s, 3).Promise != 10 {
		t.Error(get(t, s, 3))
	}
	ok(t, s, "tell node=1 what=miss")
	if a, b := get(t, s, 1), get(t, s, 3); a.Plan != 12 || a.Promise != 15 || b.Plan != 7 || b.Promise != 10 {
		t.Error("what waits is not pressed again", a, b)
	}
	s = state(t, c)
	ok(t, s, "submit user=1 width=3 limit=10", "tell node=0 what=miss", "tell node=0 what=miss", "tell node=0 what=mend", "tell node=0 what=beat", "tell node=1 what=miss", "tell node=1 what=miss")
	if j := get(t, s, 1); j.State != job.Waiting || j.Plan != never || j.Promise != never || s.Revoked() != 1 {
		t.Error(j, s.Revoked())
	}
	says(t, s, "submit user=2 width=3 limit=4", cmd.Reply{Id: 2, At: 10}) // promised beside the first one, which then does not begin
	if j := get(t, s, 2); j.State != job.Running || j.Start != 0 || s.Revoked() != 2 {
		t.Error(j, s.Revoked())
	}
}

func TestOrderAndNodes(t *testing.T) { // P24.3: who is first, and which nodes are
	c := conf(Part{5, 2})
	c.Weights = prio.Weights{Width: 10, Nice: 1}
	s := state(t, c)
	ok(t, s, "submit user=1 width=3 limit=10", "submit user=1 width=1 limit=10", "submit user=1 width=2 limit=10", "submit user=1 width=2 limit=10 nice=-50", "tell node=0 what=miss")
	if s.Fleet(0).Active() != bits.Of(1, 2, 3) {
		t.Fatal(s.Fleet(0).Active())
	}
	l := ok(t, s, "exit id=1")
	want := []Event{{Job: 1, Try: 1, Nodes: bits.Of(0, 1, 2), End: true, How: job.Done}, {Job: 4, Try: 1, Nodes: bits.Of(1, 2)}, {Job: 2, Try: 1, Nodes: bits.Of(3)}}
	if !slices.Equal(l, want) {
		t.Error(l)
	}
	if w := s.Wants(0); len(w) != 1 || w[0] != (plan.Want{Id: 3, Width: 2, Limit: 10, Plan: 10, Promise: 10, Prio: 20}) {
		t.Error(w)
	}
	if s.Busy(0) != bits.Of(1, 2, 3) || s.Base(0).At(9) != 0 || s.Base(0).At(10) != 3 {
		t.Error(s.Busy(0), s.Base(0).List())
	}
}

func TestWantsAndBase(t *testing.T) { // Words
	c := conf(Part{6, 2})
	c.Weights = prio.Weights{Age: 2, Width: 3, Share: 1, Nice: 4}
	s := state(t, c)
	ok(t, s, "submit user=1 width=4 limit=20", "tick to=5", "submit user=1 width=3 limit=6 nice=-7", "reserve from=60 many=5 width=2", "drain width=2", "tick to=15", "limit id=1 limit=18", "submit user=2 width=1 limit=2 hold", "tell node=5 what=miss", "tell node=4 what=miss", "tell node=3 what=miss", "tick to=16")
	if s.Lack(0) != 1 {
		t.Fatal(s.Lack(0))
	}
	r, _ := s.Roll(0)
	want := []usage.Step{{At: 0, Level: 3}, {At: 16, Level: -1}, {At: 18, Level: 3}, {At: 26, Level: 1}, {At: 60, Level: -1}, {At: 65, Level: 1}}
	if got := s.Base(0).List(); !slices.Equal(got, want) || r.From != 26 {
		t.Error(got, r)
	}
	ok(t, s, "tick to=17")
	w := s.Wants(0)
	if len(w) != 1 || w[0] != (plan.Want{Id: 2, Width: 3, Limit: 6, From: 17, Plan: 18, Promise: 20, Prio: 3*3 + 1000 + 28}) {
		t.Error(w)
	}
}

func TestTick(t *testing.T) { // P24.4
	s := four(t)
	ok(t, s, "tick to=9")
	says(t, s, "tick to=8", cmd.Reply{Code: api.ErrLate})
	says(t, s, "tick to=9", cmd.Reply{})
	ok(t, s, "submit user=1 width=3 limit=10", "submit user=1 width=3 limit=4", "submit user=1 width=3 limit=5")
	l := ok(t, s, "tick to=1099511627775")
	var at []api.Time
	for _, e := range l {
		at = append(at, e.At)
	}
	if !slices.Equal(at, []api.Time{19, 19, 23, 23, 28}) || s.Now() != never-1 {
		t.Error(at, s.Now())
	}
	says(t, s, "submit user=1 width=1 limit=10", cmd.Reply{Id: 4, At: never - 1})
	if j := get(t, s, 4); j.State != job.Running || j.Until() != never {
		t.Error(j)
	}
	ok(t, s, "exit id=4")
}

func TestTickToNow(t *testing.T) { // P24.4: all is settled once
	s := four(t)
	s.Jobs().Add(job.Job{User: 1, Width: 2, Limit: 7, Plan: never, Promise: never})
	if l := ok(t, s, "tick to=0"); !slices.Equal(l, []Event{{Job: 1, Try: 1, Nodes: bits.Of(0, 1)}}) {
		t.Error(l)
	}
}

func TestTickStopsAtDrains(t *testing.T) { // P24.4
	s := four(t)
	ok(t, s, "submit user=1 width=2 limit=25", "reserve from=0 many=20 width=1")
	says(t, s, "drain width=1", cmd.Reply{At: 20})
	ok(t, s, "tick to=30")
	if r, _ := s.Roll(0); r.Held != bits.Of(2) {
		t.Error("it did not begin while the job ran", r)
	}
}

func lay(parts ...any) []byte {
	var b []byte
	for _, p := range parts {
		switch x := p.(type) {
		case int:
			b = coding.PutInt(b, int64(x))
		case []byte:
			b = coding.PutText(b, string(x))
		}
	}
	return b
}

func TestBytes(t *testing.T) { // P24.6
	c := conf(Part{4, 1}, Part{2, 0})
	s := state(t, c)
	ok(t, s, "submit user=1 width=3 limit=10", "submit user=2 width=3 limit=5", "reserve from=80 many=1 width=1", "drain width=1 part=1", "tell node=3 what=miss", "tell node=0 what=miss", "tick to=3")
	r, _ := s.Roll(1)
	resvs := resv.New()
	resvs.Add(usage.Flat(9), tick.Span{From: 80, To: 81}, 1)
	parts := func() []any {
		return []any{3, 1, s.Jobs().Put(nil), s.Books().Put(), s.Fleet(0).Put(), resvs.Put(nil), 0, []byte(nil), 1, s.Fleet(1).Put(), resv.New().Put(nil), 1, roll.Put(nil, r), 0}
	}
	if !bytes.Equal(s.Put(), lay(parts()...)) {
		t.Errorf("% x", s.Put())
	}
	if got, bad := Read(c, s.Put()); bad != api.OK || !bytes.Equal(got.Put(), s.Put()) {
		t.Fatal(bad)
	}
	small, _ := fleet.New(3, 1, c.Rules)
	spare, _ := fleet.New(4, 0, c.Rules)
	rules, _ := fleet.New(4, 1, health.Rules{Suspect: 1, Down: 3, Probation: 1})
	half, _ := books.New(99)
	for name, change := range map[string]func([]any){
		"now below 0": func(l []any) { l[0] = -1 }, "now never": func(l []any) { l[0] = int(never) }, "revoked below 0": func(l []any) { l[1] = -1 }, "no table": func(l []any) { l[2] = []byte{} }, "a table and more": func(l []any) { l[2] = append(s.Jobs().Put(nil), 0) },
		"no books": func(l []any) { l[3] = []byte{} }, "another half-life": func(l []any) { l[3] = half.Put() }, "no fleet": func(l []any) { l[4] = []byte{} }, "fewer nodes": func(l []any) { l[4] = small.Put() }, "other spares": func(l []any) { l[4] = spare.Put() }, "other rules": func(l []any) { l[4] = rules.Put() },
		"no reservations": func(l []any) { l[5] = []byte{} }, "reservations and more": func(l []any) { l[5] = append(resv.New().Put(nil), 0) }, "a drain of none": func(l []any) { l[7] = roll.Put(nil, r) }, "none of a drain": func(l []any) { l[12] = []byte{} }, "drain 2": func(l []any) { l[11] = 2 }, "a drain and more": func(l []any) { l[12] = append(roll.Put(nil, r), 0) },
		"a drain of other nodes": func(l []any) { l[12] = roll.Put(nil, roll.Roll{Width: 1, Held: bits.Of(2)}) }, "lack below 0": func(l []any) { l[8] = -1 }, "lack 65": func(l []any) { l[13] = 65 }, "more": func(l []any) { l[13] = []byte{0, 0} }, "a wrong text": func(l []any) { l[2] = 5 }, "drain 2 of none": func(l []any) { l[6] = 2 },
	} {
		l := parts()
		change(l)
		if got, bad := Read(c, lay(l...)); bad != api.ErrForm || got != nil {
			t.Error(name, bad)
		}
	}
	b := s.Put()
	for cut := range b {
		if got, bad := Read(c, b[:cut]); bad != api.ErrForm || got != nil {
			t.Error("cut", cut, bad)
		}
	}
	for name, c := range map[string]Conf{"one part": conf(Part{4, 1}), "other parts": conf(Part{2, 0}, Part{4, 1}), "none": {}} {
		if got, bad := Read(c, b); bad != api.ErrForm || got != nil {
			t.Error(name, bad)
		}
	}
	if got, bad := Read(c, append(bytes.Clone(b), 0)); bad != api.ErrForm || got != nil {
		t.Error("a byte more")
	}
	l := parts()
	l[0], l[1], l[8], l[13] = int(never)-1, math.MaxInt, 64, 64
	got, bad := Read(c, lay(l...))
	if bad != api.OK || got.Now() != never-1 || got.Revoked() != math.MaxInt || got.Lack(0) != 64 {
		t.Error(bad)
	}
}

func TestWildBytes(t *testing.T) { // P24.6: states that no command leads to are gone on with all the same
	c := conf(Part{2, 0})
	jobs := table.New()
	for _, j := range []job.Job{
		{User: 1, Width: 1, Limit: 5, Tries: 9, Plan: 3, Promise: 2}, {User: 1, Width: 64, Limit: 5, Part: 3, Plan: 7, Promise: 2}, {User: 2, Width: 2, Limit: 5, Plan: 1, Promise: never},
		{User: 1, Part: 2, Width: 2, Limit: 5, State: job.Running, Tries: 1, Nodes: bits.Of(62, 63), Start: 50}, {User: 1, Width: 1, Limit: 5, State: job.Running, Tries: 1, Nodes: bits.Of(0), Start: 50},
	} {
		if _, bad := jobs.Add(j); bad != api.OK {
			t.Fatal(bad)
		}
	}
	s := state(t, c)
	b := lay(3, math.MaxInt, jobs.Put(nil), s.Books().Put(), s.Fleet(0).Put(), resv.New().Put(nil), 0, []byte(nil), 64)
	s, bad := Read(c, b)
	if bad != api.OK {
		t.Fatal(bad)
	}
	says(t, s, "cancel id=5", cmd.Reply{Code: api.ErrLate})
	if ok(t, s, "tick to=3"); get(t, s, 1).Plan != 60 {
		t.Error("one that may not be tried again is planned for later", get(t, s, 1))
	}
	ok(t, s, "tell node=0 what=miss", "tell node=0 what=miss", "tick to=300")
	if s.Now() != 300 || s.Revoked() != math.MaxInt || get(t, s, 1).State != job.Waiting {
		t.Error(s.Now(), get(t, s, 1))
	}
}
