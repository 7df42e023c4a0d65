package health

import (
	"math"
	"testing"
)

var rules = Rules{2, 4, 3}

// nodes are some that are right, and some that are not, by small rules.
func nodes() []Node {
	var l []Node
	for state := -1; state < 6; state++ {
		for misses := -1; misses < 6; misses++ {
			for beats := -1; beats < 5; beats++ {
				l = append(l, Node{state, misses, beats})
			}
		}
	}
	return append(l, Node{math.MaxInt, math.MaxInt, math.MinInt}, Node{Up, math.MinInt, 0}, Node{Repair, 0, math.MaxInt})
}

func TestRules(t *testing.T) { // P8.1
	for r, want := range map[Rules]bool{
		rules: true, {1, 2, 1}: true, {999, 1000, 1000}: true, {}: false, {0, 2, 1}: false, {2, 2, 1}: false, {3, 2, 1}: false,
		{1, 1001, 1}: false, {1000, 1001, 1}: false, {1, 2, 0}: false, {1, 2, 1001}: false, {-1, 2, 1}: false, {math.MinInt, math.MaxInt, 1}: false, {1, 2, math.MinInt}: false,
	} {
		if r.Right() != want {
			t.Error(r)
		}
	}
}

func TestNodeRight(t *testing.T) { // P8.1
	right := map[Node]bool{{Up, 0, 0}: true, {Up, 1, 0}: true, {Down, 0, 0}: true, {Drain, 0, 0}: true}
	for beats := range 3 {
		right[Node{Suspect, 2, beats}], right[Node{Suspect, 3, beats}], right[Node{Repair, 0, beats}] = true, true, true
	}
	for _, n := range nodes() {
		if n.Right(rules) != right[n] {
			t.Error(n)
		}
	}
}

func TestNext(t *testing.T) { // P8.2
	for _, c := range []struct {
		from Node
		what int
		want Node
	}{
		{Node{Up, 0, 0}, Beat, Node{Up, 0, 0}}, {Node{Up, 1, 0}, Beat, Node{Up, 0, 0}},
		{Node{Up, 0, 0}, Miss, Node{Up, 1, 0}}, {Node{Up, 1, 0}, Miss, Node{Suspect, 2, 0}},
		{Node{Suspect, 2, 0}, Beat, Node{Suspect, 2, 1}}, {Node{Suspect, 3, 1}, Beat, Node{Suspect, 3, 2}}, {Node{Suspect, 3, 2}, Beat, Node{Up, 0, 0}},
		{Node{Suspect, 2, 2}, Miss, Node{Suspect, 3, 0}}, {Node{Suspect, 3, 2}, Miss, Node{Down, 0, 0}},
		{Node{Repair, 0, 0}, Beat, Node{Repair, 0, 1}}, {Node{Repair, 0, 2}, Beat, Node{Up, 0, 0}}, {Node{Repair, 0, 2}, Miss, Node{Down, 0, 0}},
		{Node{Down, 0, 0}, Mend, Node{Repair, 0, 0}}, {Node{Up, 1, 0}, Take, Node{Drain, 0, 0}}, {Node{Drain, 0, 0}, Ready, Node{Repair, 0, 0}},
		{Node{Down, 0, 0}, Beat, Node{Down, 0, 0}}, {Node{Down, 0, 0}, Miss, Node{Down, 0, 0}}, {Node{Drain, 0, 0}, Beat, Node{Drain, 0, 0}}, {Node{Drain, 0, 0}, Miss, Node{Drain, 0, 0}},
	} {
		if got := c.from.Next(rules, c.what); got != c.want {
			t.Error(c, got)
		}
	}
	other := map[int]int{Mend: Down, Take: Up, Ready: Drain}
	for _, n := range nodes() {
		for what, state := range other {
			if n.State != state && n.Next(rules, what) != n {
				t.Error(n, what)
			}
		}
		for _, what := range []int{-1, 5, math.MinInt, math.MaxInt} {
			if n.Next(rules, what) != n {
				t.Error(n, what)
			}
		}
		for what := range 5 {
			if !n.Right(rules) && n.Next(rules, what) != n {
				t.Error("of a node that is not right", n, what)
			}
			if n.Next(Rules{2, 4, 0}, what) != n || n.Next(Rules{}, what) != n || n.Next(Rules{4, 4, 3}, what) != n {
				t.Error("by rules that are not right", n, what)
			}
		}
	}
	if (Node{Up, 0, 0}).Next(Rules{1, 2, 1}, Miss) != (Node{Suspect, 1, 0}) || (Node{Suspect, 1, 0}).Next(Rules{1, 2, 1}, Beat) != (Node{Up, 0, 0}) {
		t.Error("by the least rules")
	}
}

func TestNames(t *testing.T) { // P8.3
	for state, name := range []string{"up", "suspect", "down", "drain", "repair"} {
		if got, ok := Of(name); Text(state) != name || !ok || got != state {
			t.Error(name)
		}
	}
	for _, state := range []int{-1, 5, math.MinInt, math.MaxInt} {
		if Text(state) != "" {
			t.Error(state)
		}
	}
	for _, name := range []string{"", "Up", "up ", "ups", "mend"} {
		if state, ok := Of(name); state != 0 || ok {
			t.Error(name)
		}
	}
}

func TestStays(t *testing.T) { // P8.4
	for _, r := range []Rules{rules, {1, 2, 1}, {1, 5, 4}, {3, 4, 2}} {
		for _, n := range nodes() {
			for what := range 5 {
				if n.Right(r) && !n.Next(r, what).Right(r) {
					t.Error(n, r, what)
				}
			}
		}
		n := Node{}
		for i := range r.Down {
			if n.State == Down {
				t.Error("down behind", i)
			}
			n = n.Next(r, Miss)
		}
		if n.State != Down {
			t.Error("not down", n)
		}
		n = n.Next(r, Mend)
		for i := range r.Probation {
			if n.State == Up {
				t.Error("up behind", i)
			}
			n = n.Next(r, Beat)
		}
		if n != (Node{}) {
			t.Error("not up", n)
		}
	}
}
