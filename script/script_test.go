package script

import (
	"bytes"
	"math"
	"slices"
	"strings"
	"testing"

	"berthing/api"
	"berthing/bits"
	"berthing/cmd"
	"berthing/coding"
	"berthing/core"
	"berthing/ctl"
	"berthing/disk"
	"berthing/health"
	"berthing/prio"
)

func conf() core.Conf {
	return core.Conf{Parts: []core.Part{{Nodes: 4, Spares: 1}}, Rules: health.Rules{Suspect: 1, Down: 2, Probation: 1}, Retries: 1, Half: 100, Weights: prio.Weights{Age: 1}}
}

func run(t *testing.T) *Run {
	t.Helper()
	r, bad := New(conf())
	if bad != api.OK {
		t.Fatal(bad)
	}
	return r
}

func full(kind int) Step {
	return Step{kind, cmd.Command{Kind: cmd.Cancel, Id: 3, User: 4}, "queue", -7, [disk.Files]int{1, -2, 3, 4}}
}

// clean is what counts of full.
func clean() map[int]Step {
	return map[int]Step{
		Command: {M: cmd.Command{Kind: cmd.Cancel, Id: 3}}, Line: {Kind: Line, Line: "queue"}, Arm: {Kind: Arm, N: -7}, Fall: {Kind: Fall, Keep: [disk.Files]int{1, -2, 3, 4}}, Save: {Kind: Save}, Open: {Kind: Open},
	}
}

func TestCleanAndRight(t *testing.T) { // P28.1
	for kind, want := range clean() {
		if full(kind).Clean() != want || !full(kind).Right() || !want.Right() {
			t.Error(kind, full(kind).Clean())
		}
	}
	for _, kind := range []int{-1, 6, math.MinInt, math.MaxInt} {
		if full(kind).Clean() != (Step{}) || full(kind).Right() {
			t.Error(kind)
		}
	}
	if (Step{M: cmd.Command{Kind: cmd.Cancel}}).Right() || (Step{}).Right() || !(Step{Kind: Save, Line: strings.Repeat("x", 999)}).Right() {
		t.Error("Right")
	}
	if !(Step{Kind: Line, Line: strings.Repeat("x", 264)}).Right() || (Step{Kind: Line, Line: strings.Repeat("x", 265)}).Right() || !(Step{Kind: Line}).Right() {
		t.Error("lines")
	}
}

func TestPut(t *testing.T) { // P28.2
	if got := Put([]Step{{Kind: Save}, {Kind: Open}}); !bytes.Equal(got, []byte{8, 10}) {
		t.Errorf("% x", got)
	}
	m := string(cmd.Put(cmd.Command{Kind: cmd.Cancel, Id: 3}))
	want := coding.PutText([]byte{0}, m)
	want = coding.PutText(append(want, 2), "queue")
	want = append(want, 4, 13, 6, 2, 3, 6, 8)
	if got := Put([]Step{full(Command), full(Line), full(6), {}, full(Arm), full(Fall)}); !bytes.Equal(got, want) {
		t.Errorf("% x", got)
	}
	if len(Put(nil)) != 0 {
		t.Error("of none")
	}
}

func TestRead(t *testing.T) { // P28.2, P28.5
	var all, want []Step
	for kind := range 6 {
		all, want = append(all, full(kind)), append(want, clean()[kind])
	}
	all = append(all, Step{Kind: Arm, N: math.MinInt}, Step{Kind: Fall, Keep: [disk.Files]int{math.MaxInt}}, Step{Kind: Line, Line: strings.Repeat("\x00", 264)})
	want = append(want, all[6:]...)
	b := Put(all)
	if got, bad := Read(b); !slices.Equal(got, want) || bad != api.OK {
		t.Error(got, bad)
	}
	for cut := range b {
		got, bad := Read(b[:cut])
		if !bytes.HasPrefix(b[:cut], Put(got)) || bad == api.OK && len(Put(got)) != cut || bad != api.OK && bad != api.ErrForm || !slices.Equal(got, want[:len(got)]) {
			t.Fatal(cut, len(got), bad)
		}
	}
	save := []byte{8}
	for name, tail := range map[string][]byte{
		"kind 6": {12}, "a kind below 0": {1}, "a long form": {0x88, 0}, "no command": {0, 2, 'x'}, "a wrong command": coding.PutText([]byte{0}, string(cmd.Put(cmd.Command{Kind: cmd.Cancel}))), "a line that is too long": coding.PutText([]byte{2}, strings.Repeat("x", 265)),
		"a text that ends": {2, 4, 'x'}, "no number": {4}, "three numbers": {6, 0, 0, 0}, "a command of another form": {0, 0},
	} {
		if got, bad := Read(slices.Concat(save, tail)); !slices.Equal(got, []Step{{Kind: Save}}) || bad != api.ErrForm {
			t.Error(name, got, bad)
		}
	}
	if got, bad := Read(bytes.Repeat(save, api.MaxSteps)); len(got) != api.MaxSteps || bad != api.OK {
		t.Error(len(got), bad)
	}
	if got, bad := Read(bytes.Repeat(save, api.MaxSteps+1)); len(got) != 0 || bad != api.ErrBig {
		t.Error(len(got), bad)
	}
	if got, bad := Read(nil); len(got) != 0 || bad != api.OK {
		t.Error(got, bad)
	}
}

func TestNew(t *testing.T) { // P28.3
	wrong := conf()
	wrong.Retries = 8
	if r, bad := New(wrong); r != nil || bad != api.ErrArg {
		t.Error(bad)
	}
	r := run(t)
	if r.Ctl().Down() || r.Disk().Down() || r.Answered() != 0 {
		t.Error("New")
	}
	for _, r := range []*Run{nil, {}} {
		if o := r.Do(Step{}); o.Code != api.ErrNil || o.Text != "" || len(o.Events) != 0 || r.Ctl() != nil || r.Disk() != nil || r.Answered() != 0 {
			t.Error("of none")
		}
	}
	c := conf()
	r, _ = New(c)
	c.Parts[0].Nodes = 9
	if o := r.Do(Step{Kind: Open}); o.Code != api.OK || r.Ctl().State().Conf().Parts[0].Nodes != 4 {
		t.Error("Conf is kept")
	}
}

func line(s string) Step { return Step{Kind: Line, Line: s} }

func TestDo(t *testing.T) { // P28.3, P28.4
	r := run(t)
	for i, c := range []struct {
		s        Step
		code     api.Errno
		text     string
		events   int
		answered int
	}{
		{Step{}, api.ErrArg, "", 0, 0},
		{Step{Kind: 6}, api.ErrArg, "", 0, 0},
		{line(strings.Repeat("x", 265)), api.ErrArg, "", 0, 0},
		{line(strings.Repeat("x", 264)), api.OK, "error 3\n", 0, 0},
		{Step{M: cmd.Command{Kind: cmd.Submit, User: 1, Width: 2, Time: 5}}, api.OK, "ok id 1\n", 1, 1},
		{Step{M: cmd.Command{Kind: cmd.Cancel, Id: 9}}, api.ErrNone, "error 13\n", 0, 1},
		{line("submit user=1 width=2 limit=5"), api.OK, "ok id 2 at 5\n", 0, 2},
		{line("cancel id=9"), api.OK, "error 13\n", 0, 2},
		{line("nothing"), api.OK, "error 11\n", 0, 2},
		{line("plans"), api.OK, "job 2 plan 5 promise 5\n", 0, 2},
		{line("resvs"), api.OK, "", 0, 2},
		{line("tick to=1"), api.OK, "ok\n", 0, 3},
		{Step{Kind: Save}, api.OK, "", 0, 3},
		{Step{Kind: Arm, N: 1}, api.OK, "", 0, 3},
		{line("tick to=2"), api.ErrDown, "", 0, 3},
		{line("tick to=2"), api.ErrDown, "", 0, 3},
		{Step{M: cmd.Command{Kind: cmd.Tick, Time: 2}}, api.ErrDown, "", 0, 3},
		{Step{Kind: Save}, api.ErrDown, "", 0, 3},
		{Step{Kind: Open}, api.ErrDown, "", 0, 3},
		{Step{Kind: Fall, Keep: [disk.Files]int{99}}, api.OK, "", 0, 3},
		{line("queue"), api.ErrDown, "", 0, 3},
		{Step{Kind: Save}, api.ErrDown, "", 0, 3},
		{Step{Kind: Open}, api.OK, "", 0, 3},
		{line("tick to=1"), api.OK, "error 18\n", 0, 3},
		{Step{M: cmd.Command{Kind: cmd.Tick, Time: 5}}, api.OK, "ok\n", 2, 4},
		{Step{Kind: Arm, N: 0}, api.OK, "", 0, 4},
		{Step{M: cmd.Command{Kind: cmd.Tick, Time: 6}}, api.ErrDown, "", 0, 4},
		{Step{Kind: Fall}, api.OK, "", 0, 4},
		{Step{Kind: Arm, N: 2}, api.OK, "", 0, 4},
		{Step{Kind: Open}, api.ErrDown, "", 0, 4},
		{Step{Kind: Fall}, api.OK, "", 0, 4},
		{Step{Kind: Open}, api.OK, "", 0, 4},
		{Step{Kind: Open}, api.OK, "", 0, 4},
		{Step{Kind: Arm, N: 0}, api.OK, "", 0, 4},
		{Step{Kind: Save}, api.ErrDown, "", 0, 4},
	} {
		o := r.Do(c.s)
		if o.Code != c.code || o.Text != c.text || len(o.Events) != c.events || r.Answered() != c.answered {
			t.Error(i, c, o, r.Answered())
		}
		if (r.Ctl() == nil) != (c.code == api.ErrDown || c.s.Kind == Fall && c.code == api.OK || i == 28) {
			t.Error(i, "Ctl")
		}
	}
}

func TestEventsAndPlay(t *testing.T) { // P28.4
	l := []Step{{M: cmd.Command{Kind: cmd.Submit, User: 1, Width: 2, Time: 5}}, line("queue"), {}, {Kind: Fall, Keep: [disk.Files]int{}}, line("queue"), {Kind: Open}, line("queue")}
	outs := run(t).Play(l)
	r := run(t)
	for i, s := range l {
		o := r.Do(s)
		if o.Code != outs[i].Code || o.Text != outs[i].Text || !slices.Equal(o.Events, outs[i].Events) {
			t.Error(i, o, outs[i])
		}
	}
	if !slices.Equal(outs[0].Events, []core.Event{{Job: 1, Try: 1, Nodes: bits.Of(0, 1)}}) || outs[1].Text != outs[6].Text || outs[1].Text == "" || len(outs) != len(l) {
		t.Error(outs)
	}
	if len(run(t).Play(nil)) != 0 {
		t.Error("of none")
	}
}

func TestRunIsAlive(t *testing.T) { // P28.3: its controller and disk are those that steps act on
	r := run(t)
	r.Ctl().Do(cmd.Command{Kind: cmd.Tick, Time: 7})
	if o := r.Do(line("tick to=6")); o.Text != "error 18\n" {
		t.Error(o)
	}
	r.Disk().Arm(0)
	if o := r.Do(line("tick to=8")); o.Code != api.ErrDown || r.Ctl() != nil {
		t.Error(o)
	}
	var _ *ctl.Ctl = r.Ctl()
}
