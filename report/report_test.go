package report

import (
	"strings"
	"testing"

	"berthing/api"
)

func lines(l ...string) string { return strings.Join(l, "\n") + "\n" }

// puts looks at what a script puts.
func puts(t *testing.T, text string, want ...string) {
	t.Helper()
	whole := ""
	if len(want) > 0 {
		whole = lines(want...)
	}
	for range 2 {
		if got, line, bad := Play(text); got != whole || line != 0 || bad != api.OK {
			t.Errorf("%s\nputs (%d, %d)\n%s\nnot\n%s", text, line, bad, got, whole)
		}
	}
}

// fails looks at what is wrong with a script.
func fails(t *testing.T, text string, line int, code api.Errno) {
	t.Helper()
	if got, at, bad := Play(text); got != "" || at != line || bad != code {
		t.Errorf("%.60q: line %d, %d: %q", text, at, bad, got)
	}
}

func TestMadeOf(t *testing.T) { // P30.1
	puts(t, lines("part 3 1", "rules 1 2 1", "retries 1", "half 100", "weights 1 0 0 0"))
	puts(t, lines("part 3 1", "start", "> submit user=1 width=2 limit=5", "state"), "ok", "ok id 1", "now 0 gen 0 kept 21 answered 1 revoked 0")
	puts(t, lines("part 3 1", "start", "> submit user=1 width=2 limit=5", "nodes 0"), "ok", "ok id 1", "up 0-2 active 0,1 spares 2 lack 0")
	puts(t, lines("start", "state", "part 2 2", "start", "state"), "error 2", "none", "error 2", "none")
	puts(t, lines("part 2 1", "start", "nodes 0", "nodes 1", "part 4 0", "nodes 1", "start", "nodes 1"), "ok", "up 0,1 active 0 spares 1 lack 0", "none", "none", "ok", "up 0-3 active 0-3 spares none lack 0")
	puts(t, lines("part 2 1", "start", "> tick to=3", "start", "state", "retries 8", "start", "state", "retries 7", "start", "half 0", "start", "half 1099511627776", "start", "rules 2 2 1", "start", "rules 1 1000 1000", "start", "weights 1001 0 0 0", "start", "weights 1000 1000 1000 1000", "start", "part 1099511627776 0", "start"),
		"ok", "ok", "ok", "now 0 gen 0 kept 0 answered 0 revoked 0", "error 2", "none", "ok", "error 2", "ok", "error 2", "ok", "error 2", "ok", "error 2")
	puts(t, lines("part 2 1", "rules 1 2 2", "start", "> tell node=0 what=miss", "> tell node=0 what=miss", "> tell node=0 what=mend", "> tell node=0 what=beat", "> nodes", "> tell node=0 what=beat", "> nodes"),
		"ok", "ok", "ok", "ok", "ok", "node 0 repair spare idle", "node 1 up active idle", "ok", "node 0 up spare idle", "node 1 up active idle")
	puts(t, lines("part 1 0", "weights 0 0 0 5", "half 7", "retries 0", "start", "> submit user=1 width=1 limit=9", "> submit user=1 width=1 limit=9", "> submit user=1 width=1 limit=9 nice=-1", "> tick to=9", "> queue", "> books"),
		"ok", "ok id 1", "ok id 2 at 9", "ok id 3 at 18", "ok", "job 1 user 1 part 0 width 1 limit 9 expired tries 1 end 9", "job 2 user 1 part 0 width 1 limit 9 running tries 1 until 18 nodes 0", "job 3 user 1 part 0 width 1 limit 9 waiting tries 0 promise 18", "user 1 submitted 3 started 2 finished 0 killed 1 cancelled 0 ticks 9 factor 0")
}

func TestAtFirst(t *testing.T) { // P30.1: what is not named is as it is at first
	puts(t, lines("part 3 1", "start", "> tell node=0 what=miss", "> nodes", "> tell node=0 what=miss", "> nodes", "> tell node=0 what=mend", "> tell node=0 what=beat", "> nodes"),
		"ok", "ok", "node 0 suspect spare idle", "node 1 up active idle", "node 2 up active idle", "ok", "node 0 down spare idle", "node 1 up active idle", "node 2 up active idle", "ok", "ok", "node 0 up spare idle", "node 1 up active idle", "node 2 up active idle")
	puts(t, lines("part 3 0", "start", "> submit user=1 width=1 limit=9", "> tell node=0 what=miss", "> tell node=0 what=miss", "> queue", "> tell node=1 what=miss", "> tell node=1 what=miss", "> queue"),
		"ok", "ok id 1", "ok", "ok", "job 1 user 1 part 0 width 1 limit 9 running tries 2 until 9 nodes 1", "ok", "ok", "job 1 user 1 part 0 width 1 limit 9 failed tries 2 end 0")
	half := lines("part 2 0", "start", "> submit user=1 width=1 limit=50", "> submit user=2 width=1 limit=149", "> tick to=149", "> books", "> tick to=150", "> books")
	puts(t, half, "ok", "ok id 1", "ok id 2", "ok",
		"user 1 submitted 1 started 1 finished 0 killed 1 cancelled 0 ticks 50 factor 749", "user 2 submitted 1 started 1 finished 0 killed 1 cancelled 0 ticks 149 factor 252", "ok",
		"user 1 submitted 1 started 1 finished 0 killed 1 cancelled 0 ticks 50 factor 857", "user 2 submitted 1 started 1 finished 0 killed 1 cancelled 0 ticks 149 factor 144")
}

func TestNumbersInOrder(t *testing.T) { // P30.1
	miss, beat := "> tell node=0 what=miss", "> tell node=0 what=beat"
	puts(t, lines("part 2 0", "rules 2 4 3", "start", miss, "nodes 0", miss, "nodes 0", beat, beat, "nodes 0", beat, "nodes 0", miss, miss, miss, "> nodes", miss, "> nodes"),
		"ok", "ok", "up 0,1 active 0,1 spares none lack 0", "ok", "up 1 active 0,1 spares none lack 1", "ok", "ok", "up 1 active 0,1 spares none lack 1", "ok", "up 0,1 active 0,1 spares none lack 0",
		"ok", "ok", "ok", "node 0 suspect active idle", "node 1 up active idle", "ok", "node 0 down active idle", "node 1 up active idle")
	first := func(weights, a, b string) string {
		return lines("part 2 0", weights, "start", "> submit user=1 width=2 limit=32", "> submit user=2 width=1 limit=1 hold", a, b, "> exit id=1", "> plans")
	}
	wide, nice, other := "> submit user=2 width=2 limit=5", "> submit user=1 width=1 limit=5 nice=-5", "> submit user=1 width=1 limit=5"
	puts(t, first("weights 0 9 0 0", other, wide), "ok", "ok id 1", "ok id 2 at never", "ok id 3 at 32", "ok id 4 at 37", "ok id 1", "job 3 plan 5 promise 32")
	puts(t, first("weights 0 0 0 9", wide, nice), "ok", "ok id 1", "ok id 2 at never", "ok id 3 at 32", "ok id 4 at 37", "ok id 1", "job 3 plan 5 promise 32")
	puts(t, first("weights 9 0 0 0", other, wide), "ok", "ok id 1", "ok id 2 at never", "ok id 3 at 32", "ok id 4 at 37", "ok id 1", "job 4 plan 5 promise 37")
	puts(t, lines("part 1 0", "weights 0 0 9 0", "start", "> submit user=1 width=1 limit=9", "> tick to=9", "> submit user=3 width=1 limit=9", "> submit user=1 width=1 limit=5", "> submit user=2 width=1 limit=5", "> exit id=2", "> plans"),
		"ok", "ok id 1", "ok", "ok id 2 at 9", "ok id 3 at 18", "ok id 4 at 23", "ok id 2", "job 3 plan 14 promise 18")
	puts(t, lines("part 1 0", "weights 9 0 0 0", "start", "> submit user=1 width=1 limit=9", "> tick to=9", "> submit user=3 width=1 limit=9", "> submit user=1 width=1 limit=5", "> submit user=2 width=1 limit=5", "> exit id=2", "> plans"),
		"ok", "ok id 1", "ok", "ok id 2 at 9", "ok id 3 at 18", "ok id 4 at 23", "ok id 2", "job 4 plan 14 promise 23")
	kept := func(fall string) string {
		return lines("part 2 0", "start", "> tick to=1", "arm 1", "> tick to=2", fall, "open", "state")
	}
	puts(t, kept("fall 21 0 0 0"), "ok", "ok", "ok", "error 17", "ok", "ok", "now 2 gen 1 kept 0 answered 1 revoked 0")
	puts(t, kept("fall 20 99 99 99"), "ok", "ok", "ok", "error 17", "ok", "ok", "now 1 gen 1 kept 0 answered 1 revoked 0")
}

func TestFallOfSnapshots(t *testing.T) { // P30.2: the four numbers of a fall, in order
	saved := func(fall string) string {
		return lines("part 2 0", "start", "> tick to=1", "save", "> tick to=2", "arm 2", "save", fall, "open", "state")
	}
	want := func(gen string) []string {
		return []string{"ok", "ok", "ok", "ok", "ok", "error 17", "ok", "ok", "now 2 gen " + gen + " kept 0 answered 2 revoked 0"}
	}
	first := func(fall string) string {
		return lines("part 2 0", "start", "> tick to=1", "arm 2", "save", fall, "open", "state")
	}
	puts(t, first("fall 0 9999 0 0"), "ok", "ok", "ok", "error 17", "ok", "ok", "now 1 gen 2 kept 0 answered 1 revoked 0")
	puts(t, first("fall 9999 0 9999 9999"), "ok", "ok", "ok", "error 17", "ok", "ok", "now 1 gen 1 kept 0 answered 1 revoked 0")
	puts(t, saved("fall 0 0 9999 0"), want("3")...)
	puts(t, saved("fall 9999 9999 0 9999"), want("2")...)
}

func TestDone(t *testing.T) { // P30.2
	puts(t, lines("> queue", "> ", "arm 1", "fall 0 0 0 0", "save", "open", "state", "audit", "free 0", "nodes 9"), "none", "none", "none", "none", "none", "none", "none", "none", "none", "none")
	puts(t, lines("part 2 1", "start", "> queue", "> ", ">  queue", "> nothing", "> "+strings.Repeat("x", 264), "> "+strings.Repeat("x", 265), "> cancel id=1"), "ok", "error 11", "error 11", "error 11", "error 3", "error 2", "error 13")
	puts(t, lines("part 2 1", "start", "> tick to=2", "arm 1", "> tick to=4", "> queue", "save", "open", "fall 0 0 0 0", "save", "> queue", "open", "state", "arm 0", "save", "open", "fall 1099511627776 1 2 3", "open", "state", "open", "save", "state"),
		"ok", "ok", "ok", "error 17", "error 17", "error 17", "error 17", "ok", "error 17", "error 17", "ok", "now 2 gen 1 kept 0 answered 1 revoked 0", "ok", "error 17", "error 17", "ok", "ok", "now 2 gen 1 kept 0 answered 1 revoked 0", "ok", "ok", "now 2 gen 2 kept 0 answered 1 revoked 0")
	puts(t, lines("part 2 1", "start", "> tick to=2", "arm 0", "> tick to=4", "fall 9999 0 0 0", "open", "state"), "ok", "ok", "ok", "error 17", "ok", "ok", "now 4 gen 1 kept 0 answered 1 revoked 0")
}

func TestTold(t *testing.T) { // P30.3
	puts(t, lines("part 4 1", "part 2 0", "start", "> submit user=1 width=3 limit=10", "> submit user=2 width=3 limit=5", "> reserve from=40 many=2 width=1", "> drain width=1 part=1", "> tell node=3 what=miss", "> tell node=0 what=miss", "state", "audit", "free 0", "free 1", "free 2", "nodes 0", "nodes 1", "nodes 1099511627776"),
		"ok", "ok id 1", "ok id 2 at 10", "ok id 1", "ok", "ok", "ok", "now 0 gen 0 kept 126 answered 6 revoked 1", "fine", "0:-1 10:2 40:1 42:2", "0:1", "none", "up 1,2 active 0-2 spares 3 lack 1", "up 1 active 0,1 spares none lack 0", "none")
	puts(t, lines("part 4 1", "start", "arm 0", "save", "state", "audit", "free 0", "nodes 0", "free 9", "nodes 9"), "ok", "ok", "error 17", "down", "down", "down", "down", "down", "down")
	puts(t, lines("part 4 1", "start", "fall 0 0 0 0", "state", "open", "free 0"), "ok", "ok", "down", "ok", "0:3")
}

func TestErrors(t *testing.T) { // P30.4
	for _, s := range []string{
		"nothing", "part", "part 3", "part 3 1 1", "part 3 -1", "part 3 01", "part 3 1099511627777", "part 3  1", "part 3 1 ", " part 3 1", "part 3\t1", "part 3 1\r", "Part 3 1", "rules 1 2", "rules 1 2 3 4", "retries", "retries x", "half", "half -1", "weights 1 2 3", "weights 1 2 3 4 5",
		"start 1", "arm", "arm -1", "arm 1 2", "fall 1 2 3", "fall 1 2 3 4 5", "fall 1 2 3 -4", "save 1", "open 1", "state 1", "audit 1", "free", "free -1", "nodes", "nodes 1 2", ">", ">queue", ">>", " > queue", " ", " # x", "queue", "part 3 12345678901234",
	} {
		fails(t, s, 1, api.ErrScript)
		fails(t, lines("part 3 1", "start", "", "# x", "state", s, "state"), 6, api.ErrScript)
	}
	fails(t, strings.Repeat("\n", api.MaxSteps+1), 0, api.ErrBig)
	fails(t, strings.Repeat("nothing\n", api.MaxSteps/8)+"x", 0, api.ErrBig)
	fails(t, strings.Repeat("\n", api.MaxSteps-1)+"x", api.MaxSteps, api.ErrScript)
	puts(t, strings.Repeat("\n", api.MaxSteps))
}

func TestNoLines(t *testing.T) { // P30.5
	puts(t, "")
	puts(t, "#")
	puts(t, "\n\n#part\n\n")
	puts(t, "part 3 1\nstart\nstate", "ok", "now 0 gen 0 kept 0 answered 0 revoked 0")
	puts(t, "\n# x\npart 3 1\n\n\nstart\n#> queue\nstate\n", "ok", "now 0 gen 0 kept 0 answered 0 revoked 0")
	fails(t, "\n# x\npart 3 1\n\n\nstarts", 6, api.ErrScript)
}
