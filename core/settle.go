package core

import (
	"math"
	"slices"

	"berthing/api"
	"berthing/books"
	"berthing/cmd"
	"berthing/health"
	"berthing/job"
	"berthing/pick"
	"berthing/plan"
	"berthing/roll"
	"berthing/tick"
	"berthing/usage"
)

// tick lets time go by, step by step.
func (w *work) tick(c cmd.Command) (answer, api.Errno) {
	if c.Time < w.now {
		return answer{}, api.ErrLate
	}
	if c.Time == w.now {
		w.settle()
	}
	for w.now < c.Time {
		w.now = w.next(c.Time)
		w.settle()
	}
	return answer{}, api.OK
}

// next tells the first time above now at which something is to happen, at most the latest one.
func (w *work) next(latest api.Time) api.Time {
	next := latest
	look := func(t api.Time) {
		if t > w.now {
			next = min(next, t)
		}
	}
	for j := range w.jobs.In(job.Running) {
		look(j.Until())
	}
	for j := range w.jobs.In(job.Waiting) {
		look(j.Plan)
	}
	for _, p := range w.parts {
		if p.rolls {
			look(p.roll.From)
		}
	}
	return next
}

// settle lets be done all that is to be done now.
func (w *work) settle() {
	for j := range w.jobs.In(job.Running) {
		if j.Until() <= w.now {
			w.end(j, job.Expired, books.Killed)
		}
	}
	for broken := w.jobs.Broken(); len(broken) > 0; broken = w.jobs.Broken() {
		for _, id := range broken {
			j, _ := w.jobs.Get(id)
			w.end(j, job.Cancelled, books.Cancelled)
		}
	}
	for part := range w.parts {
		w.settlePart(part)
	}
}

func (w *work) settlePart(part int) {
	p := w.at(part)
	p.resvs.Past(w.now)
	w.goRound(part)
	wants, was := w.Wants(part), p.lack
	p.lack = p.lacks()
	base := w.Base(part)
	if p.lack != was {
		wants = w.anew(base, wants)
	}
	wants = press(base, wants)
	wants = w.begin(part, base, wants)
	w.keep(part, wants)
}

// goRound lets a drain take what it may, or go, if it is over.
func (w *work) goRound(part int) {
	p := w.at(part)
	if !p.rolls {
		return
	}
	if p.roll.Over(p.Nodes) {
		p.roll, p.rolls = roll.Roll{}, false
		return
	}
	next := p.roll.Next(w.now, p.fleet.Up().Less(w.Busy(part)))
	for n := range next.All() {
		p.fleet.Tell(n, health.Take)
	}
	p.roll = p.roll.Hold(next)
}

// anew plans wants from nothing.
func (w *work) anew(base *usage.Steps, l []plan.Want) []plan.Want {
	planned := plan.Anew(base, l)
	for i := range planned {
		w.revoke(l[i].Promise, planned[i].Promise)
	}
	return planned
}

// revoke counts a promise that was made later.
func (w *work) revoke(was, is api.Time) {
	if was < api.Never && is > was && w.revoked < math.MaxInt {
		w.revoked++
	}
}

// press presses wants until none is planned for another time.
func press(base *usage.Steps, l []plan.Want) []plan.Want {
	samePlan := func(a, b plan.Want) bool { return a.Plan == b.Plan }
	for {
		pressed := plan.Press(base, l)
		if slices.EqualFunc(l, pressed, samePlan) {
			return pressed
		}
		l = pressed
	}
}

// begin lets what is due begin, as far as there are nodes, and tells what waits then.
func (w *work) begin(part int, base *usage.Steps, l []plan.Want) []plan.Want {
	for {
		due := plan.Due(l, w.now)
		if len(due) == 0 {
			return l
		}
		want := due[0]
		i := slices.IndexFunc(l, func(o plan.Want) bool { return o.Id == want.Id })
		if j, ok := w.start(part, want); ok {
			base.Add(tick.Span{From: w.now, To: j.Until()}, -j.Width)
			l = slices.Delete(l, i, i+1)
			continue
		}
		want.From = w.firstUntil(part)
		late := plan.Issue(base, l, want)
		if late.Plan > late.Promise {
			w.revoke(late.Promise, late.Plan)
			late.Promise = late.Plan
		}
		l[i] = late
		l = press(base, l)
	}
}

// start lets a job begin, if there are nodes for it.
func (w *work) start(part int, want plan.Want) (job.Job, bool) {
	p := w.at(part)
	j, _ := w.jobs.Get(want.Id)
	nodes, ok := pick.Choose(pick.May(p.fleet.Up(), w.Busy(part), j.Black), j.Width, p.fleet.Active())
	if !ok {
		return job.Job{}, false
	}
	j.Plan, j.Promise = want.Plan, want.Promise
	j, bad := j.Begin(w.now, nodes)
	if bad != api.OK {
		return job.Job{}, false
	}
	w.jobs.Set(j)
	w.books.Note(j.User, books.Started)
	w.events = append(w.events, Event{Job: j.Id, Part: part, Try: j.Tries, Nodes: nodes, At: w.now})
	return j, true
}

// firstUntil tells the first time at which a job that runs must be over (Never: none runs).
func (w *work) firstUntil(part int) api.Time {
	first := api.Never
	w.each(part, job.Running, func(j job.Job) { first = min(first, j.Until()) })
	return first
}

// keep lets jobs have the plans and promises of what waits; those that may not begin have none.
func (w *work) keep(part int, l []plan.Want) {
	w.each(part, job.Waiting, func(j job.Job) {
		next := forget(j)
		i := slices.IndexFunc(l, func(o plan.Want) bool { return o.Id == j.Id })
		if i >= 0 {
			next.Plan, next.Promise = l[i].Plan, l[i].Promise
		}
		w.jobs.Set(next)
	})
}
