package core

import (
	"berthing/api"
	"berthing/books"
	"berthing/cmd"
	"berthing/health"
	"berthing/job"
	"berthing/plan"
	"berthing/roll"
	"berthing/tick"
)

// work is a command that is being done: the state, and what attempts began and ended.
type work struct {
	*State
	events []Event
}

// answer is what a reply tells: its time is asked for once all is settled.
type answer struct {
	id int
	at func() api.Time
}

func (a answer) reply() cmd.Reply {
	r := cmd.Reply{Id: a.id}
	if a.at != nil {
		r.At = a.at()
	}
	return r
}

// Do does a command, and tells the reply, and what attempts began and ended.
func (s *State) Do(c cmd.Command) (cmd.Reply, []Event) {
	if !s.there() {
		return cmd.Reply{Code: api.ErrNil}, nil
	}
	if !c.Right() {
		return cmd.Reply{Code: api.ErrArg}, nil
	}
	c = c.Clean()
	if s.at(c.Part) == nil {
		return cmd.Reply{Code: api.ErrNone}, nil
	}
	w := &work{State: s}
	a, bad := w.deed(c.Kind)(c)
	if bad != api.OK {
		return cmd.Reply{Code: bad}, nil
	}
	if c.Kind != cmd.Tick {
		w.settle()
	}
	return a.reply(), w.events
}

// deed tells what a command of a kind asks for. It changes nothing where it tells an error.
func (w *work) deed(kind int) func(cmd.Command) (answer, api.Errno) {
	switch kind {
	case cmd.Submit:
		return w.submit
	case cmd.Cancel, cmd.Exit:
		return w.stop
	case cmd.Hold:
		return w.hold
	case cmd.Release:
		return w.release
	case cmd.Limit:
		return w.limit
	case cmd.Reserve:
		return w.reserve
	case cmd.Unreserve:
		return w.unreserve
	case cmd.Drain:
		return w.drain
	case cmd.Undrain:
		return w.undrain
	case cmd.Tick:
		return w.tick
	}
	return w.tell
}

// promised answers a job, and its promise.
func (w *work) promised(id int) answer {
	return answer{id: id, at: func() api.Time {
		j, _ := w.jobs.Get(id)
		return j.Promise
	}}
}

func (w *work) submit(c cmd.Command) (answer, api.Errno) {
	if p := w.at(c.Part); c.Width > p.Nodes-p.Spares {
		return answer{}, api.ErrBig
	}
	id, bad := w.jobs.Add(job.Job{
		User: c.User, Part: c.Part, Width: c.Width, Limit: c.Time, Nice: c.Nice, After: c.After, Hold: c.Held,
		State: job.Waiting, Sent: w.now, Plan: api.Never, Promise: api.Never,
	})
	if bad != api.OK {
		return answer{}, bad
	}
	w.books.Note(c.User, books.Submitted)
	return w.promised(id), api.OK
}

// known tells a job that is not over.
func (w *work) known(id int) (job.Job, api.Errno) {
	j, bad := w.jobs.Get(id)
	if bad == api.OK && j.Over() {
		bad = api.ErrState
	}
	return j, bad
}

// stop cancels a job, or lets it be done.
func (w *work) stop(c cmd.Command) (answer, api.Errno) {
	how, what := job.Cancelled, books.Cancelled
	if c.Kind == cmd.Exit {
		how, what = job.Done, books.Finished
	}
	j, bad := w.known(c.Id)
	if bad == api.OK {
		bad = w.end(j, how, what) // it refuses to let one that waits be done
	}
	if bad != api.OK {
		return answer{}, bad
	}
	return answer{id: c.Id}, api.OK
}

// end stops a job, and notes that; if it runs, its attempt ends.
func (w *work) end(j job.Job, how, what int) api.Errno {
	over, bad := j.Stop(w.now, how)
	if bad != api.OK {
		return bad
	}
	w.jobs.Set(over)
	w.books.Note(j.User, what)
	w.attemptEnds(j, how)
	return api.OK
}

// attemptEnds charges the attempt of a job that ran up to now, and tells of it.
func (w *work) attemptEnds(j job.Job, how int) {
	if j.State != job.Running {
		return
	}
	w.books.Charge(j.User, w.now, j.Width, tick.Sub(w.now, j.Start))
	w.events = append(w.events, Event{Job: j.Id, Part: j.Part, Try: j.Tries, Nodes: j.Nodes, At: w.now, End: true, How: how})
}

// forget lets a job be neither planned nor promised.
func forget(j job.Job) job.Job {
	j.Plan, j.Promise = api.Never, api.Never
	return j
}

func (w *work) hold(c cmd.Command) (answer, api.Errno) {
	j, bad := w.known(c.Id)
	if bad == api.OK && (j.State != job.Waiting || j.Hold) {
		bad = api.ErrState
	}
	if bad != api.OK {
		return answer{}, bad
	}
	j.Hold = true
	w.jobs.Set(forget(j))
	return answer{id: c.Id}, api.OK
}

func (w *work) release(c cmd.Command) (answer, api.Errno) {
	j, bad := w.known(c.Id)
	if bad == api.OK && (j.State != job.Waiting || !j.Hold) {
		bad = api.ErrState
	}
	if bad != api.OK {
		return answer{}, bad
	}
	j.Hold = false
	w.jobs.Set(j)
	return w.promised(c.Id), api.OK
}

func (w *work) limit(c cmd.Command) (answer, api.Errno) {
	j, bad := w.known(c.Id)
	runs := j.State == job.Running
	if bad == api.OK && runs && (c.Time >= j.Limit || tick.Add(j.Start, c.Time) <= w.now) {
		bad = api.ErrState
	}
	if bad != api.OK {
		return answer{}, bad
	}
	j.Limit = c.Time
	if runs {
		w.jobs.Set(j)
		return answer{id: c.Id, at: j.Until}, api.OK
	}
	w.jobs.Set(forget(j))
	return w.promised(c.Id), api.OK
}

func (w *work) reserve(c cmd.Command) (answer, api.Errno) {
	if c.Time < w.now {
		return answer{}, api.ErrLate
	}
	free := plan.Left(w.bare(c.Part), w.Wants(c.Part))
	id, bad := w.at(c.Part).resvs.Add(free, tick.Of(c.Time, c.Many), c.Width)
	return answer{id: id}, bad
}

func (w *work) unreserve(c cmd.Command) (answer, api.Errno) {
	return answer{id: c.Id}, w.at(c.Part).resvs.Drop(c.Id)
}

func (w *work) drain(c cmd.Command) (answer, api.Errno) {
	p := w.at(c.Part)
	if p.rolls {
		return answer{}, api.ErrThere
	}
	if c.Width > p.Nodes-p.Spares {
		return answer{}, api.ErrBig
	}
	from := roll.Start(plan.Left(w.Base(c.Part), w.Wants(c.Part)), w.now, c.Width)
	if from >= api.Never {
		return answer{}, api.ErrState
	}
	p.roll, p.rolls = roll.Roll{Width: c.Width, From: from}, true
	return answer{at: func() api.Time { return from }}, api.OK
}

func (w *work) undrain(c cmd.Command) (answer, api.Errno) {
	p := w.at(c.Part)
	if !p.rolls {
		return answer{}, api.ErrNone
	}
	p.roll, p.rolls = roll.Roll{}, false
	return answer{}, api.OK
}

func (w *work) tell(c cmd.Command) (answer, api.Errno) {
	p := w.at(c.Part)
	was, bad := p.fleet.Node(c.Node)
	if bad != api.OK {
		return answer{}, bad
	}
	if c.What == health.Take {
		return answer{}, api.ErrArg
	}
	p.fleet.Tell(c.Node, c.What)
	is, _ := p.fleet.Node(c.Node)
	if is.State == health.Down && was.State != health.Down {
		w.each(c.Part, job.Running, func(j job.Job) { w.lose(j, c.Node) })
	}
	if is.State == health.Up && p.rolls {
		p.roll = p.roll.Back(c.Node)
	}
	return answer{}, api.OK
}

// lose lets a job that runs on a node lose it.
func (w *work) lose(j job.Job, node int) {
	next, bad := j.Lose(w.now, node, w.conf.Retries)
	if bad != api.OK {
		return
	}
	w.jobs.Set(next)
	w.books.Note(j.User, books.Killed)
	w.attemptEnds(j, Lost)
}
