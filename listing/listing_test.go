package listing

import (
	"math"
	"strings"
	"testing"

	"berthing/api"
	"berthing/cmd"
	"berthing/core"
	"berthing/health"
	"berthing/parse"
	"berthing/prio"
)

func state(t *testing.T, lines ...string) *core.State {
	t.Helper()
	s, bad := core.New(core.Conf{Parts: []core.Part{{Nodes: 4, Spares: 1}, {Nodes: 2, Spares: 0}}, Rules: health.Rules{Suspect: 1, Down: 2, Probation: 1}, Retries: 1, Half: 100, Weights: prio.Weights{Age: 1}})
	if bad != api.OK {
		t.Fatal(bad)
	}
	for _, line := range lines {
		l, bad := parse.Parse(line)
		if bad != api.OK {
			t.Fatal(line, bad)
		}
		if r, _ := s.Do(l.Command); r.Code != api.OK {
			t.Fatal(line, r)
		}
	}
	return s
}

// tells looks at what a query tells.
func tells(t *testing.T, s *core.State, query string, want ...string) {
	t.Helper()
	l, bad := parse.Parse(query)
	if bad != api.OK {
		t.Fatal(query, bad)
	}
	text := ""
	for _, w := range want {
		text += w + "\n"
	}
	if got := Tell(s, l); got != text {
		t.Errorf("%s:\n%snot\n%s", query, got, text)
	}
}

func TestQueueAndJob(t *testing.T) { // P26.1
	s := state(t, "submit user=1 width=2 limit=10", "submit user=2 width=1 limit=7 part=1", "submit user=3 width=3 limit=5 nice=-4", "submit user=3 width=3 limit=5 hold after=1", "submit user=3 width=3 limit=5 after=3", "submit user=3 width=3 limit=5",
		"tell node=1 what=miss", "tell node=1 what=miss", "tick to=3", "cancel id=6", "submit user=3 width=2 limit=1048576 part=1 nice=9", "tell node=0 part=1 what=miss", "tell node=0 part=1 what=miss")
	tells(t, s, "queue",
		"job 1 user 1 part 0 width 2 limit 10 running tries 2 until 10 nodes 0,2",
		"job 2 user 2 part 1 width 1 limit 7 running tries 2 until 10 nodes 1",
		"job 3 user 3 part 0 width 3 limit 5 waiting tries 0 promise 10",
		"job 4 user 3 part 0 width 3 limit 5 waiting tries 0 hold",
		"job 5 user 3 part 0 width 3 limit 5 waiting tries 0 after 3",
		"job 6 user 3 part 0 width 3 limit 5 cancelled tries 0 end 3",
		"job 7 user 3 part 1 width 2 limit 1048576 waiting tries 0 promise never")
	tells(t, s, "job id=1", "job 1 user 1 part 0 width 2 limit 10 running tries 2 until 10 nodes 0,2", "black 1 sent 0 nice 0")
	tells(t, s, "job id=7", "job 7 user 3 part 1 width 2 limit 1048576 waiting tries 0 promise never", "black none sent 3 nice 9")
	tells(t, s, "job id=8")
	tells(t, state(t), "queue")
	done := state(t, "submit user=1 width=1 limit=9", "tick to=2", "exit id=1", "submit user=1 width=1 limit=9 after=1 hold", "release id=2")
	tells(t, done, "queue", "job 1 user 1 part 0 width 1 limit 9 done tries 1 end 2", "job 2 user 1 part 0 width 1 limit 9 running tries 1 until 11 nodes 0")
}

func TestNodes(t *testing.T) { // P26.1
	s := state(t, "submit user=1 width=2 limit=10", "submit user=1 width=1 limit=10 part=1", "tell node=1 what=miss", "tell node=2 what=miss", "tell node=2 what=miss", "tell node=3 what=beat")
	tells(t, s, "nodes", "node 0 up active job 1", "node 1 suspect spare job 1", "node 2 down active idle", "node 3 up active idle")
	tells(t, s, "nodes part=1", "node 0 up active job 2", "node 1 up active idle")
	tells(t, s, "nodes part=2")
	s = state(t, "drain width=1", "tell node=0 what=ready", "tell node=3 what=miss", "tell node=3 what=miss", "tell node=3 what=mend")
	tells(t, s, "nodes", "node 0 repair spare idle", "node 1 up active idle", "node 2 up active idle", "node 3 repair active idle")
	s = state(t, "drain width=1 part=1")
	tells(t, s, "nodes part=1", "node 0 drain active idle", "node 1 up active idle")
}

func TestBooks(t *testing.T) { // P26.1
	s := state(t, "submit user=2 width=2 limit=10", "submit user=1 width=1 limit=5", "tick to=5", "exit id=1", "submit user=16 width=1 limit=5 hold", "cancel id=3")
	tells(t, s, "books", "user 1 submitted 1 started 1 finished 0 killed 1 cancelled 0 ticks 5 factor 667", "user 2 submitted 1 started 1 finished 1 killed 0 cancelled 0 ticks 10 factor 334", "user 16 submitted 1 started 0 finished 0 killed 0 cancelled 1 ticks 0 factor 1000")
	tells(t, state(t), "books")
}

func TestPlansDrainsResvs(t *testing.T) { // P26.1
	s := state(t, "submit user=1 width=3 limit=10", "submit user=1 width=2 limit=5", "submit user=1 width=3 limit=5 hold", "submit user=1 width=2 limit=5 nice=3", "reserve from=30 many=5 width=2", "reserve from=40 many=1 width=3", "unreserve id=1", "reserve from=30 many=1 width=1", "drain width=3", "drain width=1 part=1", "limit id=1 limit=3", "tell part=1 node=0 what=ready", "tell part=1 node=0 what=beat")
	tells(t, s, "plans", "job 2 plan 3 promise 10", "job 4 plan 8 promise 15")
	tells(t, s, "plans part=1")
	tells(t, s, "plans part=3")
	tells(t, s, "drains", "part 0 width 3 from 41 done none held none", "part 1 width 1 from 0 done 0 held 1")
	tells(t, s, "resvs", "resv 2 from 40 to 41 width 3", "resv 3 from 30 to 31 width 1")
	tells(t, s, "resvs part=1")
	tells(t, s, "resvs part=2")
	tells(t, state(t, "submit user=1 width=3 limit=10", "tell node=0 what=miss", "tell node=3 what=miss", "submit user=1 width=3 limit=10"), "plans", "job 2 plan never promise never")
}

func TestNone(t *testing.T) { // P26.1
	s := state(t, "submit user=1 width=3 limit=10")
	for query := parse.Queue; query <= parse.Job; query++ {
		for _, none := range []*core.State{nil, {}} {
			if Tell(none, parse.Line{Query: query, Id: 1}) != "" {
				t.Error(query)
			}
		}
	}
	for _, l := range []parse.Line{{}, {Command: cmd.Command{Kind: cmd.Cancel, Id: 1}}, {Query: 8}, {Query: -1}, {Query: math.MinInt}, {Query: parse.Nodes, Part: -1}, {Query: parse.Plans, Part: math.MaxInt}, {Query: parse.Resvs, Part: math.MinInt}, {Query: parse.Job, Id: math.MinInt}} {
		if Tell(s, l) != "" {
			t.Error(l)
		}
	}
	for range Lines(s, parse.Line{Query: parse.Nodes}) {
		break
	}
	told := Lines(s, parse.Line{Query: parse.Nodes})
	for range 2 {
		var l []string
		for line := range told {
			l = append(l, line)
		}
		if strings.Join(l, "\n")+"\n" != Tell(s, parse.Line{Query: parse.Nodes}) || len(l) != 4 {
			t.Error(l)
		}
	}
}

func TestPartThatThereIsNot(t *testing.T) { // P26.1
	s := state(t, "submit user=1 width=1 limit=10", "submit user=1 width=3 limit=10", "drain width=1 part=1", "reserve from=30 many=5 width=2")
	for query := parse.Queue; query <= parse.Job; query++ {
		for _, part := range []int{2, 3, -1, api.MaxParts, math.MinInt, math.MaxInt} {
			l := parse.Line{Query: query, Part: part, Id: 1}
			if got := Tell(s, l); got != "" {
				t.Errorf("query %d of part %d: %q", query, part, got)
			}
			for line := range Lines(s, l) {
				t.Errorf("query %d of part %d: %q", query, part, line)
			}
		}
		if Tell(s, parse.Line{Query: query, Id: 1}) == "" {
			t.Errorf("query %d of part 0: none", query)
		}
	}
	for query, whole := range map[int]bool{parse.Queue: true, parse.Nodes: false, parse.Books: true, parse.Plans: false, parse.Drains: true, parse.Resvs: false, parse.Job: true} {
		l := parse.Line{Query: query, Id: 1}
		first := Tell(s, l)
		l.Part = 1
		if got := Tell(s, l); (got == first) != whole {
			t.Errorf("query %d of part 1: %q", query, got)
		}
	}
}

func TestReply(t *testing.T) { // P26.2
	for r, want := range map[cmd.Reply]string{
		{Id: 3, At: 10}: "ok id 3 at 10", {}: "ok", {Id: 3}: "ok id 3", {At: 7}: "ok at 7", {At: api.Never}: "ok at never", {At: math.MaxInt64}: "ok at never", {Id: -1, At: -2}: "ok id -1 at -2",
		{Code: api.ErrState}: "error 16", {Code: api.ErrNil, Id: 3, At: 5}: "error 1", {Code: -4}: "error -4",
	} {
		if Reply(r) != want {
			t.Error(r, Reply(r))
		}
	}
	for at, want := range map[int64]string{0: "0", 7: "7", -3: "-3", 1<<40 - 1: "1099511627775", 1 << 40: "never", 1<<40 + 1: "never", math.MaxInt64: "never", math.MinInt64: "-9223372036854775808"} {
		if Time(at) != want {
			t.Error(at, Time(at))
		}
	}
}
