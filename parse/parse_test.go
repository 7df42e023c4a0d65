package parse

import (
	"math"
	"strings"
	"testing"

	"berthing/api"
	"berthing/cmd"
)

// lines are some that are right, as Text tells them.
func lines() map[string]Line {
	return map[string]Line{
		"submit user=1 width=2 limit=5":                                 {Command: cmd.Command{Kind: cmd.Submit, User: 1, Width: 2, Time: 5}},
		"submit user=16 width=64 limit=7 part=3 nice=-100 after=4 hold": {Command: cmd.Command{Kind: cmd.Submit, User: 16, Width: 64, Time: 7, Part: 3, Nice: -100, After: 4, Held: true}},
		"cancel id=5":                   {Command: cmd.Command{Kind: cmd.Cancel, Id: 5}},
		"hold id=1073741824":            {Command: cmd.Command{Kind: cmd.Hold, Id: 1 << 30}},
		"release id=1":                  {Command: cmd.Command{Kind: cmd.Release, Id: 1}},
		"exit id=1":                     {Command: cmd.Command{Kind: cmd.Exit, Id: 1}},
		"limit id=3 limit=1048576":      {Command: cmd.Command{Kind: cmd.Limit, Id: 3, Time: 1 << 20}},
		"reserve from=0 many=9 width=2": {Command: cmd.Command{Kind: cmd.Reserve, Many: 9, Width: 2}},
		"reserve from=1099511627775 many=9 width=2 part=1": {Command: cmd.Command{Kind: cmd.Reserve, Time: api.Never - 1, Many: 9, Width: 2, Part: 1}},
		"unreserve id=3":                {Command: cmd.Command{Kind: cmd.Unreserve, Id: 3}},
		"unreserve id=3 part=2":         {Command: cmd.Command{Kind: cmd.Unreserve, Id: 3, Part: 2}},
		"drain width=1":                 {Command: cmd.Command{Kind: cmd.Drain, Width: 1}},
		"drain width=1 part=2":          {Command: cmd.Command{Kind: cmd.Drain, Width: 1, Part: 2}},
		"undrain":                       {Command: cmd.Command{Kind: cmd.Undrain}},
		"undrain part=3":                {Command: cmd.Command{Kind: cmd.Undrain, Part: 3}},
		"tick to=0":                     {Command: cmd.Command{Kind: cmd.Tick}},
		"tell node=63 what=beat":        {Command: cmd.Command{Kind: cmd.Tell, Node: 63}},
		"tell node=0 what=ready part=1": {Command: cmd.Command{Kind: cmd.Tell, What: 4, Part: 1}},
		"queue":                         {Query: Queue},
		"books":                         {Query: Books},
		"drains":                        {Query: Drains},
		"nodes":                         {Query: Nodes},
		"nodes part=3":                  {Query: Nodes, Part: 3},
		"plans part=1":                  {Query: Plans, Part: 1},
		"resvs part=2":                  {Query: Resvs, Part: 2},
		"job id=1":                      {Query: Job, Id: 1},
		"job id=1073741824":             {Query: Job, Id: 1 << 30},
		"job id=7":                      {Query: Job, Id: 7},
	}
}

func TestParse(t *testing.T) { // P23.1
	more := lines()
	more["submit hold limit=5 after=0 width=2 user=1 nice=0 part=0"] = Line{Command: cmd.Command{Kind: cmd.Submit, User: 1, Width: 2, Time: 5, Held: true}}
	more["tell part=0 what=miss node=2"] = Line{Command: cmd.Command{Kind: cmd.Tell, Node: 2, What: 1}}
	more["tell node=2 what=mend"] = Line{Command: cmd.Command{Kind: cmd.Tell, Node: 2, What: 2}}
	more["tell node=2 what=take"] = Line{Command: cmd.Command{Kind: cmd.Tell, Node: 2, What: 3}}
	for s, want := range more {
		if got, bad := Parse(s); got != want || bad != api.OK {
			t.Error(s, got, bad)
		}
	}
}

func TestParseErrors(t *testing.T) { // P23.1
	for bad, l := range map[api.Errno][]string{
		api.ErrBig: {strings.Repeat("x", 257), "queue" + strings.Repeat(" ", 300)},
		api.ErrForm: {
			"", " ", "queue ", " queue", "cancel  id=5", "cancel id=5 ", "cancel\tid=5", "cancel id=5\n", strings.Repeat("x", 256), "Queue", "submits", "cancel=5", "quit", "cancel", "cancel id", "cancel id=", "cancel id=05", "cancel id=-0",
			"cancel id=+5", "cancel id=5x", "cancel id=0x5", "cancel id=00", "cancel id=12345678901234", "cancel id=- 5", "cancel id=5 id=5", "cancel id=5 id=6", "cancel id=5 user=1", "cancel user=1", "cancel id=5 hold", "cancel =5", "cancel id==5", "cancel Id=5",
			"submit user=1 width=2", "submit user=1 limit=2", "submit width=1 limit=2", "submit user=1 width=2 limit=5 hold=1", "submit user=1 width=2 limit=5 hold hold", "submit user=1 width=2 limit=5 holds", "submit user=1 width=2 limit=5 part=1 part=1", "submit user=1 width=2 limit=5 time=3",
			"submit user=99 width=2", "cancel id=0 x", "tell node=1 what=0", "tell node=1 what=", "tell node=1 what=Beat", "tell node=beat what=beat", "tell node=1", "tell what=beat", "tick", "tick from=3", "tick to=3 part=0", "reserve from=1 many=2", "reserve from=1 width=2", "reserve many=1 width=2", "reserve to=1 many=2 width=3",
			"unreserve part=1", "drain", "drain part=1", "undrain id=1", "limit id=1", "limit limit=1", "queue part=0", "books id=1", "drains part=0", "nodes id=1", "nodes part", "plans part=1 part=1", "job", "job part=1", "job id=1 part=1", "hold", "hold hold",
		},
		api.ErrArg: {
			"cancel id=0", "cancel id=-5", "cancel id=1073741825", "cancel id=9999999999999", "submit user=0 width=2 limit=5", "submit user=17 width=2 limit=5", "submit user=1 width=65 limit=5", "submit user=1 width=2 limit=0", "submit user=1 width=2 limit=1048577", "submit user=1 width=2 limit=5 part=4",
			"submit user=1 width=2 limit=5 nice=101", "submit user=1 width=2 limit=5 after=-1", "tick to=-1", "tick to=1099511627776", "reserve from=1 many=0 width=2", "tell node=64 what=beat", "drain width=0", "nodes part=4", "plans part=-1", "resvs part=9999999999999", "job id=0", "job id=1073741825", "job id=-1",
		},
	} {
		for _, s := range l {
			if got, code := Parse(s); got != (Line{}) || code != bad {
				t.Errorf("%q: %v %d, not %d", s, got, code, bad)
			}
		}
	}
}

func TestText(t *testing.T) { // P23.2, P23.4
	for s, l := range lines() {
		if Text(l) != s {
			t.Error(s, Text(l))
		}
	}
	wild := cmd.Command{Id: 1, User: 2, Part: 3, Width: 4, Nice: 5, After: 6, Node: 7, What: 3, Time: 8, Many: 9, Held: true}
	for kind, want := range map[int]string{
		cmd.Submit: "submit user=2 width=4 limit=8 part=3 nice=5 after=6 hold", cmd.Cancel: "cancel id=1", cmd.Limit: "limit id=1 limit=8", cmd.Reserve: "reserve from=8 many=9 width=4 part=3", cmd.Tell: "tell node=7 what=take part=3", cmd.Undrain: "undrain part=3", 0: "", 13: "", -1: "", math.MinInt: "", math.MaxInt: "",
	} {
		c := wild
		c.Kind = kind
		if got := Text(Line{Command: c, Part: 9, Id: 8}); got != want {
			t.Error(kind, got)
		}
	}
	for query, want := range map[int]string{Queue: "queue", Nodes: "nodes part=2", Books: "books", Plans: "plans part=2", Drains: "drains", Resvs: "resvs part=2", Job: "job id=5", 8: "", -1: "", math.MinInt: "", math.MaxInt: ""} {
		if got := Text(Line{Command: wild, Query: query, Part: 2, Id: 5}); got != want {
			t.Error(query, got)
		}
	}
	if Text(Line{Command: cmd.Command{Kind: cmd.Submit, User: -3, Nice: math.MinInt}}) != "submit user=-3 width=0 limit=0 nice=-9223372036854775808" {
		t.Error("what is not right")
	}
	for what, want := range map[int]string{-1: "tell node=1 what=-1", 4: "tell node=1 what=ready", 5: "tell node=1 what=5", math.MaxInt: "tell node=1 what=9223372036854775807"} {
		if got := Text(Line{Command: cmd.Command{Kind: cmd.Tell, Node: 1, What: what}}); got != want {
			t.Error(got)
		}
	}
}

func TestNumbers(t *testing.T) { // P23.3
	for w, want := range map[string]int64{"0": 0, "7": 7, "-7": -7, "10": 10, "9999999999999": 9999999999999, "-9999999999999": -9999999999999, "1099511627776": 1 << 40} {
		if n, ok := Number(w); n != want || !ok || Digits(n) != w {
			t.Error(w, n, ok)
		}
	}
	for _, w := range []string{"", "-", "-0", "00", "01", "-01", "+1", "1 ", " 1", "1a", "a", "--1", "1-", "10000000000000", "-10000000000000", "1.0", "\x00", "\xff1", "٣"} {
		if n, ok := Number(w); n != 0 || ok {
			t.Error(w, n, ok)
		}
	}
	if Digits(math.MinInt64) != "-9223372036854775808" || Digits(math.MaxInt64) != "9223372036854775807" {
		t.Error("Digits")
	}
}
