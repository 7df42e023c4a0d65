package trace

import (
	"bytes"
	"math"
	"slices"
	"strings"
	"testing"

	"berthing/api"
	"berthing/bits"
	"berthing/coding"
	"berthing/core"
)

const never = api.Never

func begin(id int, at api.Time, nodes ...int) core.Event {
	return core.Event{Job: id, Try: 1, Nodes: bits.Of(nodes...), At: at}
}

func end(id int, at api.Time, how int, nodes ...int) core.Event {
	return core.Event{Job: id, Try: 1, Nodes: bits.Of(nodes...), At: at, End: true, How: how}
}

func in(part int, e core.Event) core.Event {
	e.Part = part
	return e
}

func some() []core.Event {
	return []core.Event{begin(12, 1, 0, 1), begin(7, 2, 2), end(12, 3, 6, 0, 1), in(1, begin(5, 3, 0, 1, 2)), begin(12, 3, 1, 3), end(7, 5, 2, 2), end(12, 8, 5, 1, 3), in(3, begin(9, 8, 63))}
}

func TestPut(t *testing.T) { // P32.1
	want := []byte{}
	for _, v := range []int64{2, 1, 12, 0, 1, 3, 0, 64, 12, 0, 2, -1, 6} {
		want = coding.PutInt(want, v)
	}
	second := end(12, 65, 6)
	second.Try, second.Nodes = 2, math.MaxUint64
	if got := Put([]core.Event{begin(12, 1, 0, 1), second}); !bytes.Equal(got, want) {
		t.Errorf("% x", got)
	}
	if got := Put(nil); !bytes.Equal(got, []byte{0}) {
		t.Errorf("% x", got)
	}
}

func TestRight(t *testing.T) { // P32.1
	for name, change := range map[string]func(*core.Event){
		"job 0": func(e *core.Event) { e.Job = 0 }, "job": func(e *core.Event) { e.Job = 1<<30 + 1 }, "part below": func(e *core.Event) { e.Part = -1 }, "part": func(e *core.Event) { e.Part = 4 }, "try 0": func(e *core.Event) { e.Try = 0 }, "try": func(e *core.Event) { e.Try = 10 },
		"at below": func(e *core.Event) { e.At = -1 }, "at": func(e *core.Event) { e.At = never }, "how below": func(e *core.Event) { e.How = -1 }, "how": func(e *core.Event) { e.How = 7 }, "no end": func(e *core.Event) { e.End = false }, "how 0": func(e *core.Event) { e.How = 0 }, "earlier": func(e *core.Event) { e.At = 7 },
	} {
		e := end(1, 9, 6)
		if change(&e); len(Put([]core.Event{begin(1, 8), e})) != 0 {
			t.Error(name)
		}
	}
	for name, change := range map[string]func(*core.Event){
		"least": func(e *core.Event) { e.Job, e.Part, e.Try, e.At, e.How, e.Nodes = 1, 0, 1, 8, 1, 0 }, "greatest": func(e *core.Event) {
			e.Job, e.Part, e.Try, e.At, e.How, e.Nodes = 1<<30, 3, 9, never-1, 6, math.MaxUint64
		},
	} {
		l := []core.Event{begin(1, 8), end(1, 9, 6)}
		change(&l[1])
		if got, bad := Read(Put(l)); bad != api.OK || !slices.Equal(got, l) {
			t.Error(name, bad)
		}
	}
}

func TestRead(t *testing.T) { // P32.1, P32.5
	b := Put(some())
	if got, bad := Read(b); bad != api.OK || !slices.Equal(got, some()) {
		t.Error(got, bad)
	}
	if got, bad := Read([]byte{0}); bad != api.OK || len(got) != 0 {
		t.Error(got, bad)
	}
	for cut := range b {
		if got, bad := Read(b[:cut]); bad != api.ErrForm || len(got) != 0 {
			t.Error(cut, bad)
		}
	}
	lay := func(l ...int64) []byte {
		var b []byte
		for _, v := range l {
			b = coding.PutInt(b, v)
		}
		return b
	}
	for name, b := range map[string][]byte{
		"a byte more": append(bytes.Clone(b), 0), "many below 0": lay(-1), "too many": lay(api.MaxText + 1), "earlier": lay(2, 5, 1, 0, 1, 1, 0, -1, 1, 0, 1, 1, 0), "never": lay(1, int64(never), 1, 0, 1, 1, 0), "together never": lay(2, int64(never)-1, 1, 0, 1, 1, 0, 1, 1, 0, 1, 1, 0), "far": lay(2, 5, 1, 0, 1, 1, 0, math.MaxInt64, 1, 0, 1, 1, 0),
		"job 0": lay(1, 5, 0, 0, 1, 1, 0), "job": lay(1, 5, 1<<30+1, 0, 1, 1, 0), "part": lay(1, 5, 1, 4, 1, 1, 0), "try 0": lay(1, 5, 1, 0, 0, 1, 0), "try 10": lay(1, 5, 1, 0, 10, 1, 0), "how": lay(1, 5, 1, 0, 1, 1, 7), "how below": lay(1, 5, 1, 0, 1, 1, -1), "a long form": {0x80, 0},
	} {
		if got, bad := Read(b); bad != api.ErrForm || len(got) != 0 {
			t.Error(name, got, bad)
		}
	}
	most := slices.Repeat([]core.Event{begin(1, 0)}, api.MaxText)
	if got, bad := Read(Put(most)); bad != api.OK || len(got) != api.MaxText {
		t.Error(bad)
	}
	if got, bad := Read(Put(append(most, begin(1, 0)))); bad != api.ErrForm || len(got) != 0 {
		t.Error(bad)
	}
}

func TestSums(t *testing.T) { // P32.2
	want := []Sum{{5, 1, 3, 0, 0, 0}, {7, 1, 2, 5, 3, 2}, {9, 1, 8, 0, 0, 0}, {12, 2, 1, 8, 14, 5}}
	if got := Sums(some()); !slices.Equal(got, want) {
		t.Error(got)
	}
	if len(Sums(nil)) != 0 {
		t.Error("of none")
	}
	if got := Sums([]core.Event{end(3, 9, 4, 0)}); !slices.Equal(got, []Sum{{3, 0, never, 9, 0, 4}}) {
		t.Error(got)
	}
	var long []core.Event
	for range 1100 {
		long = append(long, begin(1, 0, 0, 1), end(1, never-1, 2, 0, 1))
	}
	if got := Sums(long); !slices.Equal(got, []Sum{{1, 1100, 0, never - 1, 1 << 50, 2}}) {
		t.Error(got)
	}
	if got := Sums(long[:4]); got[0].Ticks != 2*int64(never) {
		t.Error(got)
	}
	wild := []core.Event{begin(-1, 9, 0), end(-1, 5, 99, 0), {Job: math.MinInt, Part: -9, At: math.MaxInt64}, {Job: math.MinInt, At: math.MinInt64, End: true}}
	if got := Sums(wild); !slices.Equal(got, []Sum{{math.MinInt, 1, math.MaxInt64, math.MinInt64, 0, 0}, {-1, 1, 9, 5, 0, 99}}) {
		t.Error(got)
	}
}

func TestBusyAndPeak(t *testing.T) { // P32.3
	for at, want := range map[api.Time]int{-1: 0, 0: 0, 1: 2, 2: 3, 3: 3, 4: 3, 5: 2, 7: 2, 8: 0, never - 1: 0, never: 0, math.MinInt64: 0, math.MaxInt64: 0} {
		if got := Busy(some(), 0, at); got != want {
			t.Error(at, got)
		}
	}
	if Busy(some(), 1, 2) != 0 || Busy(some(), 1, 3) != 3 || Busy(some(), 1, never-1) != 3 || Busy(some(), 1, never) != 0 || Busy(some(), 3, 8) != 1 || Busy(some(), 2, 8) != 0 || Busy(nil, 0, 0) != 0 {
		t.Error("Busy")
	}
	if Busy([]core.Event{begin(1, 0, 0, 1), begin(2, 0, 1, 2)}, 0, 5) != 3 {
		t.Error("a node in two rows")
	}
	for part, want := range map[int][2]api.Time{0: {3, 2}, 1: {3, 3}, 3: {1, 8}, 2: {0, 0}, -1: {0, 0}} {
		if n, at := Peak(some(), part); n != int(want[0]) || at != want[1] {
			t.Error(part, n, at)
		}
	}
	if n, at := Peak([]core.Event{begin(1, 5), begin(2, 6, 0), end(2, 6, 2, 0)}, 0); n != 0 || at != 0 {
		t.Error(n, at)
	}
}

func TestOneJobInTwoParts(t *testing.T) { // P32.2, P32.3, P32.4
	for name, c := range map[string]struct {
		events       []core.Event
		first, other string // what is drawn of the parts 0 and 1
		busy         [2]int // at 3
		peak, at     [2]int
		sum          Sum
	}{
		"an end elsewhere at once": {[]core.Event{in(1, begin(5, 0, 0)), end(5, 0, 1, 0)}, "....\n....\n", "5555\n....\n", [2]int{0, 1}, [2]int{0, 1}, [2]int{0, 0}, Sum{5, 1, 0, 0, 0, 1}},
		"an end elsewhere":         {[]core.Event{begin(5, 0, 0, 1), in(1, end(5, 1, 3, 0, 1))}, "5555\n5555\n", "....\n....\n", [2]int{2, 0}, [2]int{2, 0}, [2]int{0, 0}, Sum{5, 1, 0, 1, 0, 3}},
		"both ends":                {[]core.Event{in(1, begin(5, 0, 0)), end(5, 1, 1, 0), in(1, end(5, 3, 2, 0))}, "....\n....\n", "555.\n....\n", [2]int{0, 0}, [2]int{0, 1}, [2]int{0, 0}, Sum{5, 1, 0, 3, 3, 2}},
		"its own end first":        {[]core.Event{in(1, begin(5, 0, 0)), in(1, end(5, 2, 2, 0)), end(5, 3, 6, 0)}, "....\n....\n", "55..\n....\n", [2]int{0, 0}, [2]int{0, 1}, [2]int{0, 0}, Sum{5, 1, 0, 3, 2, 6}},
		"rows in both":             {[]core.Event{begin(5, 0, 0), in(1, begin(5, 1, 0, 1)), in(1, end(5, 2, 6, 0, 1)), end(5, 3, 5, 0)}, "555.\n....\n", ".5..\n.5..\n", [2]int{0, 0}, [2]int{1, 2}, [2]int{0, 1}, Sum{5, 2, 0, 3, 5, 5}},
		"only one ended":           {[]core.Event{begin(5, 0, 0), in(1, begin(5, 1, 0, 1)), end(5, 2, 6, 0)}, "55..\n....\n", ".555\n.555\n", [2]int{0, 2}, [2]int{1, 2}, [2]int{0, 1}, Sum{5, 2, 0, 2, 2, 6}},
	} {
		for part, want := range []string{c.first, c.other} {
			if got := Draw(c.events, part, 2, 0, 4); got != want {
				t.Errorf("%s, part %d: %q", name, part, got)
			}
			if got := Busy(c.events, part, 3); got != c.busy[part] {
				t.Errorf("%s, part %d: %d busy", name, part, got)
			}
			if most, at := Peak(c.events, part); most != c.peak[part] || at != api.Time(c.at[part]) {
				t.Errorf("%s, part %d: %d at %d", name, part, most, at)
			}
		}
		if got := Sums(c.events); !slices.Equal(got, []Sum{c.sum}) {
			t.Errorf("%s: %v", name, got)
		}
	}
}

func TestDraw(t *testing.T) { // P32.4
	if got := Draw([]core.Event{begin(12, 1, 0, 1), end(12, 3, 2, 0, 1)}, 0, 2, 0, 4); got != ".22.\n.22.\n" {
		t.Error(got)
	}
	if got := Draw(some(), 0, 4, -2, 12); got != "  .22.......\n  .2222222..\n  ..777.....\n  ...22222..\n" {
		t.Errorf("\n%s", got)
	}
	for name, c := range map[string]struct{ got, want string }{
		"another part": {Draw(some(), 1, 1, 2, 3), ".55\n"}, "no part": {Draw(some(), 2, 1, 2, 3), "...\n"}, "no nodes": {Draw(some(), 0, 0, 0, 9), ""}, "nodes below 0": {Draw(some(), 0, math.MinInt, 0, 9), ""}, "no times": {Draw(some(), 0, 2, 0, 0), "\n\n"}, "times below 0": {Draw(some(), 0, 1, 0, math.MinInt), "\n"},
		"many nodes": {Draw(nil, 0, math.MaxInt, 0, 1), strings.Repeat(".\n", 64)}, "many times": {Draw(nil, 0, 1, 0, math.MaxInt), strings.Repeat(".", 1024) + "\n"}, "up to never": {Draw(some(), 1, 1, never-2, 4), "55  \n"}, "from never": {Draw(some(), 1, 1, never, 2), "  \n"},
		"far": {Draw(some(), 1, 1, math.MaxInt64, 3), "   \n"}, "far back": {Draw(some(), 1, 1, math.MinInt64, 3), "   \n"}, "the last that began": {Draw([]core.Event{begin(1, 0, 0), begin(2, 1, 0), end(2, 2, 2, 0)}, 0, 1, 0, 4), "1211\n"},
		"odd numbers": {Draw([]core.Event{begin(-13, 0, 0), begin(math.MinInt, 0, 1), begin(20, 0, 2)}, 0, 3, 0, 1), "3\n8\n0\n"},
	} {
		if c.got != c.want {
			t.Errorf("%s: %q", name, c.got)
		}
	}
}
