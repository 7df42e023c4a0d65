package script

import (
	"bytes"
	"testing"

	"berthing/api"
	"berthing/audit"
	"berthing/bits"
	"berthing/chart"
	"berthing/cmd"
	"berthing/core"
	"berthing/disk"
	"berthing/health"
	"berthing/listing"
	"berthing/parse"
	"berthing/prio"
)

// chance tells numbers that look like chance, alike each time.
type chance uint32

func (c *chance) below(n int) int {
	*c = *c*1664525 + 1013904223
	return int(*c>>8) % n
}

func (c *chance) one(l ...int) int { return l[c.below(len(l))] }

// command is one that may be refused; a tick is of one time, so that all is settled once.
func (c *chance) command(s *core.State) cmd.Command {
	m := cmd.Command{Kind: cmd.Tick, Time: s.Now() + 1}
	switch k := c.below(12); {
	case k < 3:
		m = cmd.Command{Kind: cmd.Submit, User: 1 + c.below(3), Part: c.below(2), Width: 1 + c.below(4), Time: api.Time(1 + c.below(9)), Nice: c.below(9) - 4, Held: c.below(9) == 0, After: c.below(s.Jobs().Next()) * c.below(2)}
	case k < 5:
		m = cmd.Command{Kind: c.one(cmd.Cancel, cmd.Exit, cmd.Hold, cmd.Release, cmd.Limit), Id: 1 + c.below(s.Jobs().Next()), Time: api.Time(1 + c.below(9))}
	case k < 6:
		m = cmd.Command{Kind: c.one(cmd.Reserve, cmd.Unreserve, cmd.Drain, cmd.Undrain), Part: c.below(2), Id: 1 + c.below(9), Width: 1 + c.below(2), Time: s.Now() + api.Time(c.below(9)), Many: 5}
	case k < 9:
		m = cmd.Command{Kind: cmd.Tell, Part: c.below(2), Node: c.below(5), What: c.one(health.Beat, health.Beat, health.Beat, health.Beat, health.Miss, health.Miss, health.Mend, health.Mend, health.Ready)}
	}
	return m.Clean()
}

// told is the state behind what was answered, held against a chart.
type told struct {
	t     *testing.T
	state *core.State
	chart *chart.Chart
}

// do does a command that was answered, or kept, and tells its reply.
func (a *told) do(m cmd.Command) cmd.Reply {
	was := a.state.Clone()
	r, events := a.state.Do(m)
	if r.Code != api.OK {
		return r
	}
	for _, j := range a.state.Jobs().All() {
		a.chart.Job(j.Id, j.Part, j.Width, j.Limit)
	}
	if m.Kind == cmd.Tell {
		a.chart.Tell(m.Part, m.Node, m.What)
	}
	for part := range 2 {
		took := a.state.Fleet(part).In(health.Drain).Less(was.Fleet(part).In(health.Drain))
		if a.chart.Took(part, took) != api.OK {
			a.t.Fatal("Took", took)
		}
	}
	if bad := a.chart.Step(a.state.Now(), events); bad != api.OK {
		a.t.Fatal("what may not be: ", bad, m, events)
	}
	for part := range 2 {
		if a.chart.Up(part) != a.state.Fleet(part).Up() {
			a.t.Fatal("Up")
		}
	}
	return r
}

func TestWhole(t *testing.T) { // W1, W4, W5, P29.4
	c := core.Conf{Parts: []core.Part{{Nodes: 5, Spares: 1}, {Nodes: 3, Spares: 1}}, Rules: health.Rules{Suspect: 1, Down: 2, Probation: 1}, Retries: 2, Half: 40, Weights: prio.Weights{Age: 1, Share: 1, Nice: 2}}
	rows := 0
	for seed := range 25 {
		dice := chance(seed)
		r, _ := New(c)
		fresh, _ := core.New(c)
		plot, _ := chart.New([]int{5, 3}, c.Rules, c.Retries)
		a := &told{t, fresh, plot}
		var undone []cmd.Command // that which was being done as the disk went down
		for range 400 {
			if r.Ctl() == nil {
				dice.fallAndOpen(t, r, a, undone)
				undone = nil
				continue
			}
			if dice.below(12) == 0 {
				r.Do(Step{Kind: Arm, N: dice.below(6)})
			}
			if dice.below(15) == 0 {
				r.Do(Step{Kind: Save})
				continue
			}
			m := dice.command(a.state)
			next := a.state.Clone()
			reply, _ := next.Do(m)
			s := Step{M: m}
			if dice.below(2) == 0 {
				s = Step{Kind: Line, Line: parse.Text(parse.Line{Command: m})}
			}
			out := r.Do(s)
			if out.Code == api.ErrDown {
				undone = []cmd.Command{m}
				continue
			}
			if out.Text != listing.Reply(reply)+"\n" || a.do(m) != reply {
				t.Fatal("an answer", s, out, reply)
			}
			if l := audit.All(a.state); len(l) != 0 {
				t.Fatal(l)
			}
		}
		apart(t, plot.Rows())
		rows += len(plot.Rows())
	}
	if rows < 300 {
		t.Error("too few rows to tell", rows)
	}
}

// fallAndOpen lets the disk fall, until it is opened: what was being done was done, or was not.
func (c *chance) fallAndOpen(t *testing.T, r *Run, a *told, undone []cmd.Command) {
	r.Do(Step{Kind: Fall, Keep: [disk.Files]int{c.one(0, 5, 21, 22, 99), c.one(-1, 9, 9999), c.one(-1, 9, 9999), 0}})
	if c.below(3) == 0 {
		r.Do(Step{Kind: Arm, N: c.below(4)})
	}
	if out := r.Do(Step{Kind: Open}); out.Code != api.OK {
		if out.Code != api.ErrDown {
			t.Fatal("Open", out)
		}
		c.fallAndOpen(t, r, a, undone)
		return
	}
	is := r.Ctl().State().Put()
	if !bytes.Equal(is, a.state.Put()) && len(undone) > 0 {
		a.do(undone[0])
	}
	if !bytes.Equal(is, a.state.Put()) {
		t.Fatal("another state")
	}
	r.Do(Step{Kind: Arm, N: -1})
	if r.Do(Step{Kind: Open}); !bytes.Equal(r.Ctl().State().Put(), is) {
		t.Fatal("opened twice it is another one")
	}
}

// apart looks whether rows of one partition have a node in common at some time.
func apart(t *testing.T, rows []chart.Row) {
	for i, a := range rows {
		for _, b := range rows[:i] {
			later := !b.Open && b.To <= a.From || !a.Open && a.To <= b.From
			if a.Part == b.Part && !later && a.Nodes.And(b.Nodes) != bits.Set(0) {
				t.Fatal(a, b)
			}
		}
	}
}
