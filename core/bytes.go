package core

import (
	"math"

	"berthing/api"
	"berthing/books"
	"berthing/coding"
	"berthing/fleet"
	"berthing/resv"
	"berthing/roll"
	"berthing/table"
)

// Put tells its bytes.
func (s *State) Put() []byte {
	if !s.there() {
		return nil
	}
	var b []byte
	number := func(v int) { b = coding.PutInt(b, int64(v)) }
	text := func(t []byte) { b = coding.PutText(b, string(t)) }
	number(int(s.now))
	number(s.revoked)
	text(s.jobs.Put(nil))
	text(s.books.Put())
	for _, p := range s.parts {
		text(p.fleet.Put())
		text(p.resvs.Put(nil))
		if p.rolls {
			number(1)
			text(roll.Put(nil, p.roll))
		} else {
			number(0)
			text(nil)
		}
		number(p.lack)
	}
	return b
}

// Read tells the state of bytes, made so.
func Read(c Conf, b []byte) (*State, api.Errno) {
	s, bad := New(c)
	if bad != api.OK {
		return nil, api.ErrForm
	}
	in := coding.Read(b)
	s.now = api.Time(in.Small(int(api.Never) - 1))
	s.revoked = in.Small(math.MaxInt)
	if !s.readTable([]byte(in.Text())) || !s.readBooks([]byte(in.Text())) {
		return nil, api.ErrForm
	}
	for i := range s.parts {
		if !s.parts[i].read(in, s.conf) {
			return nil, api.ErrForm
		}
	}
	if in.End() != api.OK {
		return nil, api.ErrForm
	}
	return s, api.OK
}

func (s *State) readTable(b []byte) bool {
	t, n, bad := table.Read(b)
	s.jobs = t
	return bad == api.OK && n == len(b)
}

func (s *State) readBooks(b []byte) bool {
	r, bad := books.Read(b)
	s.books = r
	return bad == api.OK && r.Half() == s.conf.Half
}

// read reads what is known of a partition; false: it is none that is made so.
func (p *partition) read(in *coding.Cursor, c Conf) bool {
	f, badFleet := fleet.Read([]byte(in.Text()))
	own := []byte(in.Text())
	l, n, badResvs := resv.Read(own)
	if badFleet != api.OK || badResvs != api.OK || n != len(own) {
		return false
	}
	if f.Len() != p.Nodes || f.Spares().Len() != p.Spares || f.Rules() != c.Rules {
		return false
	}
	p.fleet, p.resvs = f, l
	p.rolls = in.Small(1) == 1
	drain := []byte(in.Text())
	p.lack = in.Small(api.MaxNodes)
	if in.Bad() != api.OK {
		return false
	}
	return p.readDrain(drain)
}

func (p *partition) readDrain(b []byte) bool {
	if !p.rolls {
		return len(b) == 0
	}
	r, n, bad := roll.Read(b)
	p.roll = r
	return bad == api.OK && n == len(b) && r.Right(p.Nodes)
}
