package core

import (
	"bytes"
	"slices"
	"testing"

	"berthing/api"
	"berthing/bits"
	"berthing/cmd"
	"berthing/fit"
	"berthing/health"
	"berthing/job"
	"berthing/pick"
	"berthing/plan"
	"berthing/prio"
	"berthing/tick"
	"berthing/usage"
)

// chance tells numbers that look like chance, alike each time.
type chance uint32

func (c *chance) below(n int) int {
	*c = *c*1664525 + 1013904223
	return int(*c>>8) % n
}

func (c *chance) one(l ...int) int { return l[c.below(len(l))] }

func (c *chance) conf() Conf {
	var parts []Part
	for range 1 + c.below(2) {
		nodes := 3 + c.below(6)
		parts = append(parts, Part{nodes, c.below(min(3, nodes))})
	}
	return Conf{Parts: parts, Rules: health.Rules{Suspect: 1 + c.below(2), Down: 3, Probation: 1 + c.below(2)}, Retries: c.below(4), Half: 50, Weights: prio.Weights{Age: c.below(3), Width: c.below(3), Share: c.below(2), Nice: c.below(3)}}
}

// command is one that may be refused; few are those that let nodes be gone, if calm.
func (c *chance) command(s *State, calm bool) cmd.Command {
	part := c.below(len(s.Conf().Parts))
	id := 1 + c.below(s.Jobs().Next())
	switch k := c.below(20); {
	case k < 6:
		after := 0
		if c.below(4) == 0 {
			after = id
		}
		return cmd.Command{Kind: cmd.Submit, User: 1 + c.below(4), Part: part, Width: 1 + c.below(6), Nice: c.below(40) - 20, After: after, Time: api.Time(1 + c.below(30)), Held: c.below(8) == 0}
	case k < 8:
		return cmd.Command{Kind: c.one(cmd.Cancel, cmd.Exit, cmd.Exit, cmd.Hold, cmd.Release, cmd.Release), Id: id}
	case k < 9:
		return cmd.Command{Kind: cmd.Limit, Id: id, Time: api.Time(1 + c.below(30))}
	case k < 10:
		return cmd.Command{Kind: cmd.Reserve, Part: part, Time: s.Now() + api.Time(c.below(60)), Many: api.Time(1 + c.below(20)), Width: 1 + c.below(3)}
	case k < 11:
		return cmd.Command{Kind: c.one(cmd.Unreserve, cmd.Drain, cmd.Drain, cmd.Undrain), Part: part, Id: 1 + c.below(9), Width: 1 + c.below(2)}
	case k < 14:
		return cmd.Command{Kind: cmd.Tick, Time: s.Now() + api.Time(c.below(12))}
	}
	what := c.one(health.Beat, health.Beat, health.Beat, health.Mend, health.Ready, health.Ready, health.Miss)
	if !calm {
		what = c.one(health.Beat, health.Miss, health.Miss, health.Mend, health.Ready)
	}
	return cmd.Command{Kind: cmd.Tell, Part: part, Node: c.below(s.Fleet(part).Len()), What: what}
}

// outside tells how many nodes are not up, and held by no drain.
func outside(s *State, part int) int {
	r, _ := s.Roll(part)
	return bits.First(s.Fleet(part).Len()).Less(s.Fleet(part).Up()).Less(r.Held).Len()
}

// runs holds what runs against W1.
type runs struct {
	t   *testing.T
	now map[int]Event
	try map[int]int
}

func (r runs) step(s, was *State, l []Event) {
	for _, e := range l {
		j, _ := was.Jobs().Get(e.Job)
		if k, bad := s.Jobs().Get(e.Job); bad == api.OK {
			j = k
		}
		begun, on := r.now[e.Job]
		if e.End {
			if !on || begun.Nodes != e.Nodes || begun.Try != e.Try || e.At < begun.At || e.At > begun.At+30 {
				r.t.Fatal("an end", e, begun)
			}
			delete(r.now, e.Job)
			continue
		}
		r.try[e.Job]++
		d, _ := s.Roll(e.Part) // what it holds by now, it may have taken behind the beginning
		if on || e.Nodes.Len() != j.Width || e.Part != j.Part || e.Try != r.try[e.Job] || e.Try > s.Conf().Retries+1 || e.Nodes.And(j.Black) != 0 || e.Nodes.Less(s.Fleet(e.Part).Up()).Less(d.Held) != 0 {
			r.t.Fatal("a beginning", e, j)
		}
		for _, o := range r.now {
			if o.Part == e.Part && o.Nodes.And(e.Nodes) != 0 {
				r.t.Fatal("two on a node", e, o)
			}
		}
		r.now[e.Job] = e
	}
	for j := range s.Jobs().In(job.Running) {
		if r.now[j.Id].Nodes != j.Nodes || j.Until() <= s.Now() || j.Nodes.And(s.Fleet(j.Part).In(health.Down)) != 0 {
			r.t.Fatal("what runs", j)
		}
	}
}

// idles holds a state against W6.
func idles(t *testing.T, s *State) {
	for part := range s.Conf().Parts {
		wants := s.Wants(part)
		for i, w := range wants {
			j, _ := s.Jobs().Get(w.Id)
			if pick.May(s.Fleet(part).Up(), s.Busy(part), j.Black).Len() < w.Width {
				continue
			}
			left := plan.Left(s.Base(part), slices.Delete(slices.Clone(wants), i, i+1))
			if fit.Fits(left, tick.Of(s.Now(), w.Limit), w.Width) {
				t.Fatal("one that could begin waits", w, left.List())
			}
		}
	}
}

// promises holds states, one behind the other, against W2: safe has those that wait and to which all that W2 asks for happened since they were promised.
type promises struct {
	t    *testing.T
	safe map[int]api.Time
	calm []bool // of each partition: up to now it was so for all that wait
}

func (p *promises) step(s *State, c cmd.Command) {
	for part, has := range s.Conf().Parts {
		for j := range s.Jobs().In(job.Waiting) {
			if j.Part == part && outside(s, part) > has.Spares-j.Black.Len() {
				p.calm[part] = false
			}
		}
	}
	for id, was := range p.safe {
		j, bad := s.Jobs().Get(id)
		asked := (c.Kind == cmd.Limit || c.Kind == cmd.Hold) && c.Id == id
		if bad != api.OK || j.State != job.Waiting || asked || outside(s, j.Part) > s.Conf().Parts[j.Part].Spares-j.Black.Len() {
			if bad == api.OK && j.Start > was && j.Tries > 0 && !j.Over() {
				p.t.Fatal("begun behind its promise", j, was)
			}
			delete(p.safe, id)
			continue
		}
		if s.Now() > was || j.Promise > was && p.calm[j.Part] {
			p.t.Fatal("a promise", j, was, s.Now())
		}
	}
	for part := range s.Conf().Parts {
		for _, w := range s.Wants(part) {
			j, _ := s.Jobs().Get(w.Id)
			if _, known := p.safe[w.Id]; !known && w.Promise < api.Never && outside(s, part) <= s.Conf().Parts[part].Spares-j.Black.Len() {
				p.safe[w.Id] = w.Promise
			}
		}
	}
}

// drains holds a state against W3.
func drains(t *testing.T, s, was *State, c cmd.Command, r cmd.Reply) {
	for part := range s.Conf().Parts {
		if d, rolls := s.Roll(part); rolls && (d.Held.Len() > d.Width || d.Held.And(s.Busy(part)) != 0 || !d.Right(s.Fleet(part).Len())) {
			t.Fatal("a drain", d)
		}
	}
	if c.Kind != cmd.Drain || r.Code != api.OK {
		return
	}
	for _, w := range was.Wants(c.Part) {
		if j, bad := s.Jobs().Get(w.Id); bad == api.OK && j.Promise != w.Promise {
			t.Fatal("a drain moved a promise", j, w)
		}
	}
}

func TestScripts(t *testing.T) { // W1, W2, W3, W5, W6, P24.3 to P24.7
	for seed := range 48 {
		c := chance(seed)
		cf := c.conf()
		s, bad := New(cf)
		if bad != api.OK {
			t.Fatal(bad)
		}
		twin := s.Clone()
		r := runs{t, map[int]Event{}, map[int]int{}}
		p := promises{t, map[int]api.Time{}, make([]bool, len(cf.Parts))}
		for part := range p.calm {
			p.calm[part] = true
		}
		for range 250 {
			was := s.Clone()
			m := c.command(s, seed%3 != 0)
			reply, events := s.Do(m)
			again, same := twin.Do(m)
			if reply != again || !slices.Equal(events, same) || !bytes.Equal(s.Put(), twin.Put()) {
				t.Fatal("not alike", m, reply, again)
			}
			if reply.Code != api.OK && (reply.Id != 0 || reply.At != 0 || len(events) != 0 || !bytes.Equal(s.Put(), was.Put())) {
				t.Fatal("an error changed something", m, reply)
			}
			r.step(s, was, events)
			p.step(s, m)
			idles(t, s)
			drains(t, s, was, m, reply)
			if s.Revoked() < was.Revoked() {
				t.Fatal("Revoked")
			}
			if twin, bad = Read(cf, s.Put()); bad != api.OK {
				t.Fatal("Read", bad)
			}
		}
	}
}

func TestDrainEnds(t *testing.T) { // W3: where nodes stay up, and what it holds comes back within each turn
	for seed := range 30 {
		c := chance(seed)
		cf := c.conf()
		cf.Rules.Probation = 1
		s, _ := New(cf)
		for range 20 {
			s.Do(cmd.Command{Kind: cmd.Submit, User: 1 + c.below(3), Width: 1 + c.below(4), Time: api.Time(1 + c.below(9))})
		}
		r, _ := s.Do(cmd.Command{Kind: cmd.Drain, Width: 1})
		if r.Code != api.OK {
			continue
		}
		end := r.At + 10*api.Time(s.Fleet(0).Len()+1)
		for s.Now() < end {
			s.Do(cmd.Command{Kind: cmd.Tick, Time: s.Now() + 1})
			d, _ := s.Roll(0)
			for n := range d.Held.All() {
				s.Do(cmd.Command{Kind: cmd.Tell, Node: n, What: health.Ready})
				s.Do(cmd.Command{Kind: cmd.Tell, Node: n, What: health.Beat})
			}
		}
		if d, rolls := s.Roll(0); rolls {
			t.Error(seed, "not over", d)
		}
		if s.Revoked() != 0 || usage.Same(s.Base(0), nil) {
			t.Error(seed, "a promise was moved")
		}
	}
}
