package graph

import (
	"math"
	"math/rand"
	"slices"
	"testing"

	"januspost/api"
)

// none are numbers of no transaction.
var none = []int{-1, api.MaxTxns, -api.MaxTxns, api.MaxTxns + 1, math.MinInt, math.MaxInt}

// graphOf is a graph in which just these are known, each with what stands ahead of it.
func graphOf(known map[int][]int) api.Graph {
	var g api.Graph
	for n, l := range known {
		g.Known[n], g.Deps[n] = true, l
	}
	return g
}

// listOf is the transactions of a set, rising.
func listOf(set [api.MaxTxns]bool) []int {
	var l []int
	for n, in := range set {
		if in {
			l = append(l, n)
		}
	}
	return l
}

// upTo is the numbers from 0 to below n.
func upTo(n int) []int {
	l := make([]int, n)
	for i := range l {
		l[i] = i
	}
	return l
}

// downFrom is the numbers from n less 1 to 0.
func downFrom(n int) []int {
	l := upTo(n)
	slices.Reverse(l)
	return l
}

// stepped is a graph of all transactions, each behind the one that lies so many numbers further on, if there is one; in a round the last are behind the first.
func stepped(by int, round bool) api.Graph {
	var g api.Graph
	for n := range api.MaxTxns {
		g.Known[n] = true
		d := n + by
		if round {
			d = (d + api.MaxTxns) % api.MaxTxns
		}
		g.Deps[n] = []int{d}
	}
	return g
}

// asked is a graph, a number, and what the promises ask of it; without an order it is not ready.
type asked struct {
	why   string
	g     api.Graph
	n     int
	reach []int
	order []int
}

func cases() []asked {
	two := map[int][]int{0: {1}, 1: {0}, 2: {3}, 3: {2}}
	return []asked{
		{"alone", graphOf(map[int][]int{4: nil}), 4, []int{4}, []int{4}},
		{"the first there is", graphOf(map[int][]int{0: {}}), 0, []int{0}, []int{0}},
		{"the last there is", graphOf(map[int][]int{31: {}}), 31, []int{31}, []int{31}},
		{"behind itself", graphOf(map[int][]int{8: {8}}), 8, []int{8}, []int{8}},
		{"behind a lesser", graphOf(map[int][]int{5: {2}, 2: nil}), 5, []int{2, 5}, []int{2, 5}},
		{"behind a greater", graphOf(map[int][]int{2: {5}, 5: nil}), 2, []int{2, 5}, []int{5, 2}},
		{"one behind it is not in it", graphOf(map[int][]int{2: {5}, 5: nil}), 5, []int{5}, []int{5}},
		{"behind the last of all", graphOf(map[int][]int{0: {31}, 31: nil}), 0, []int{0, 31}, []int{31, 0}},
		{"some twice, not rising", graphOf(map[int][]int{3: {9, 1, 9, 1}, 1: nil, 9: nil}), 3, []int{1, 3, 9}, []int{1, 9, 3}},

		{"not known", graphOf(nil), 3, []int{3}, nil},
		{"one ahead is not known", graphOf(map[int][]int{3: {6}}), 3, []int{3, 6}, nil},
		{"one far ahead is not known", graphOf(map[int][]int{3: {6}, 6: {1}, 1: {0}}), 3, []int{0, 1, 3, 6}, nil},
		{"one of a ring is not known", graphOf(map[int][]int{3: {6}, 6: {3, 1}}), 6, []int{1, 3, 6}, nil},
		{"others that are not known are of no account", graphOf(map[int][]int{3: {6}, 6: nil, 7: {1}}), 3, []int{3, 6}, []int{6, 3}},

		{"a ring of two, from the lesser", graphOf(map[int][]int{4: {9}, 9: {4}}), 4, []int{4, 9}, []int{4, 9}},
		{"a ring of two, from the greater", graphOf(map[int][]int{4: {9}, 9: {4}}), 9, []int{4, 9}, []int{4, 9}},
		{"a ring of three", graphOf(map[int][]int{4: {2}, 2: {9}, 9: {4}}), 9, []int{2, 4, 9}, []int{2, 4, 9}},
		{"one behind a ring", graphOf(map[int][]int{1: {4}, 4: {9}, 9: {4}}), 1, []int{1, 4, 9}, []int{4, 9, 1}},
		{"a ring behind a greater one", graphOf(map[int][]int{0: {1}, 1: {0, 7}, 7: nil}), 0, []int{0, 1, 7}, []int{7, 0, 1}},
		{"a ring behind a ring", graphOf(map[int][]int{0: {1}, 1: {0, 2}, 2: {3}, 3: {2}}), 0, []int{0, 1, 2, 3}, []int{2, 3, 0, 1}},
		{"rings side by side, the least member first", graphOf(map[int][]int{9: {8, 3}, 8: {1}, 1: {8}, 3: nil}), 9, []int{1, 3, 8, 9}, []int{1, 8, 3, 9}},
		{"a ring is not torn by a number between", graphOf(map[int][]int{9: {8, 0}, 8: {1}, 1: {8}, 0: {5}, 5: nil}), 9, []int{0, 1, 5, 8, 9}, []int{1, 8, 5, 0, 9}},
		{"another ring is not in it", graphOf(two), 1, []int{0, 1}, []int{0, 1}},
		{"rings within a ring", graphOf(map[int][]int{0: {1, 3}, 1: {0, 2}, 2: {1}, 3: {0, 4}, 4: {3}}), 4, upTo(5), upTo(5)},
		{"a ring that meets a way that was gone already", graphOf(map[int][]int{0: {1, 4}, 1: {2}, 2: {3}, 3: {1}, 4: {3, 5}, 5: {0}}), 0, upTo(6), []int{1, 2, 3, 0, 4, 5}},

		{"the least is asked anew at each step", graphOf(map[int][]int{20: {10, 11}, 10: {15}, 15: nil, 11: {1}, 1: nil}), 20, []int{1, 10, 11, 15, 20}, []int{1, 11, 15, 10, 20}},
		{"what becomes free goes ahead of greater ones", graphOf(map[int][]int{20: {3, 6, 7}, 3: {5}, 5: nil, 6: nil, 7: nil}), 20, []int{3, 5, 6, 7, 20}, []int{5, 3, 6, 7, 20}},
		{"two ways to one", graphOf(map[int][]int{0: {1, 2}, 1: {3}, 2: {3}, 3: nil}), 0, upTo(4), []int{3, 1, 2, 0}},

		{"all, each behind the next", stepped(1, false), 0, upTo(32), downFrom(32)},
		{"all, each behind the one before", stepped(-1, false), 31, upTo(32), upTo(32)},
		{"all in one ring", stepped(1, true), 17, upTo(32), upTo(32)},
		{"all in one ring, backwards", stepped(-1, true), 0, upTo(32), upTo(32)},
		{"half of all in a ring", stepped(16, true), 20, []int{4, 20}, []int{4, 20}},
	}
}

// P4.1
func TestReach(t *testing.T) {
	for _, c := range cases() {
		if got := listOf(Reach(c.g, c.n)); !slices.Equal(got, c.reach) {
			t.Errorf("%s: Reach = %v, want %v", c.why, got, c.reach)
		}
	}
}

// P4.1
func TestReady(t *testing.T) {
	for _, c := range cases() {
		if got := Ready(c.g, c.n); got != (c.order != nil) {
			t.Errorf("%s: Ready = %v", c.why, got)
		}
	}
}

// P4.2
func TestOrder(t *testing.T) {
	for _, c := range cases() {
		if got := Order(c.g, c.n); !slices.Equal(got, c.order) {
			t.Errorf("%s: Order = %v, want %v", c.why, got, c.order)
		}
	}
}

// P4.1: only of what is known the Deps count, of the one that is asked for as of others.
func TestDepsOfWhatIsNotKnown(t *testing.T) {
	var g api.Graph
	g.Known[2], g.Deps[2] = true, []int{4}
	g.Deps[4] = []int{6}
	g.Known[6], g.Deps[6] = true, []int{2}
	for n, want := range map[int][]int{2: {2, 4}, 4: {4}, 6: {2, 4, 6}} {
		if got := listOf(Reach(g, n)); !slices.Equal(got, want) {
			t.Errorf("Reach of %d = %v, want %v", n, got, want)
		}
		if Ready(g, n) || len(Order(g, n)) != 0 {
			t.Errorf("%d is ready: %v", n, Order(g, n))
		}
	}
}

// P4.1, P4.2: what is no transaction hangs on nothing, is never ready, and has no order.
func TestOfNoTransaction(t *testing.T) {
	for _, g := range []api.Graph{{}, stepped(1, true), graphOf(map[int][]int{0: none, 31: none})} {
		for _, n := range none {
			if Reach(g, n) != [api.MaxTxns]bool{} || Ready(g, n) || len(Order(g, n)) != 0 {
				t.Errorf("%d: %v, %v, %v", n, listOf(Reach(g, n)), Ready(g, n), Order(g, n))
			}
		}
	}
}

// P4.1, P4.2: numbers of none are nothing, wherever they stand among Deps.
func TestNumbersOfNoneAmongDeps(t *testing.T) {
	for _, c := range cases() {
		for n, l := range c.g.Deps {
			c.g.Deps[n] = slices.Concat(none, l, none)
		}
		if got := listOf(Reach(c.g, c.n)); !slices.Equal(got, c.reach) {
			t.Errorf("%s: Reach = %v, want %v", c.why, got, c.reach)
		}
		if got := Ready(c.g, c.n); got != (c.order != nil) {
			t.Errorf("%s: Ready = %v", c.why, got)
		}
		if got := Order(c.g, c.n); !slices.Equal(got, c.order) {
			t.Errorf("%s: Order = %v, want %v", c.why, got, c.order)
		}
	}
}

// plainReach is P4.1 word by word: Deps are put in until nothing comes in any more.
func plainReach(g api.Graph, n int) [api.MaxTxns]bool {
	var set [api.MaxTxns]bool
	set[n] = true
	for before := -1; before != len(listOf(set)); {
		before = len(listOf(set))
		for _, m := range listOf(set) {
			for _, d := range g.Deps[m] {
				if g.Known[m] && d >= 0 && d < api.MaxTxns {
					set[d] = true
				}
			}
		}
	}
	return set
}

// plainOrder is P4.2 word by word, and whether the transaction is ready.
func plainOrder(g api.Graph, n int) ([]int, bool) {
	var hangs [api.MaxTxns][api.MaxTxns]bool
	for m := range hangs {
		hangs[m] = plainReach(g, m)
	}
	all := listOf(hangs[n])
	for _, m := range all {
		if !g.Known[m] {
			return nil, false
		}
	}
	var order []int
	for len(order) < len(all) {
		least := slices.IndexFunc(all, func(m int) bool {
			return !slices.Contains(order, m) && !slices.ContainsFunc(all, func(k int) bool {
				return hangs[m][k] && !slices.Contains(order, k) && !hangs[k][m]
			})
		})
		for _, k := range all {
			if hangs[all[least]][k] && hangs[k][all[least]] {
				order = append(order, k)
			}
		}
	}
	return order, true
}

// holdAgainstPlain asks of each of these transactions what the promises' words say.
func holdAgainstPlain(t *testing.T, g api.Graph, l []int) {
	t.Helper()
	for _, n := range l {
		order, ready := plainOrder(g, n)
		if got, want := Reach(g, n), plainReach(g, n); got != want {
			t.Fatalf("%v: Reach of %d = %v, want %v", g, n, listOf(got), listOf(want))
		}
		if got := Ready(g, n); got != ready {
			t.Fatalf("%v: Ready of %d = %v", g, n, got)
		}
		if got := Order(g, n); !slices.Equal(got, order) {
			t.Fatalf("%v: Order of %d = %v, want %v", g, n, got, order)
		}
	}
}

// bits is those of a list whose bits are set in a number.
func bits(l []int, set int) []int {
	var picked []int
	for i, n := range l {
		if set>>i&1 == 1 {
			picked = append(picked, n)
		}
	}
	return picked
}

// P4.1, P4.2: all graphs of three transactions, known or not.
func TestAllOfThree(t *testing.T) {
	three := []int{0, 7, 31}
	for deps := range 1 << 9 {
		for known := range 1 << 3 {
			var g api.Graph
			for i, n := range three {
				g.Known[n] = known>>i&1 == 1
				g.Deps[n] = bits(three, deps>>(3*i))
			}
			holdAgainstPlain(t, g, three)
		}
	}
}

// P4.1, P4.2: all graphs of four known transactions that are not behind themselves.
func TestAllOfFour(t *testing.T) {
	four := []int{1, 2, 5, 8}
	for deps := range 1 << 12 {
		var g api.Graph
		for i, n := range four {
			others := slices.Delete(slices.Clone(four), i, i+1)
			g.Known[n] = true
			g.Deps[n] = bits(others, deps>>(3*i))
		}
		holdAgainstPlain(t, g, four)
	}
}

// P4.1, P4.2: graphs of all transactions, from few Deps to many, from most known to all.
func TestManyOfAll(t *testing.T) {
	r := rand.New(rand.NewSource(4))
	for round := range 400 {
		var g api.Graph
		for n := range api.MaxTxns {
			g.Known[n] = round%4 > 0 || r.Intn(40) > 0
			for range r.Intn(2 + round%5) {
				g.Deps[n] = append(g.Deps[n], r.Intn(api.MaxTxns+4)-2)
			}
		}
		holdAgainstPlain(t, g, []int{0, 31, r.Intn(api.MaxTxns), r.Intn(api.MaxTxns)})
	}
}

// What holds everywhere: every call ends, also where each stands ahead of each, and where lists are long.
func TestCrowdedAndLong(t *testing.T) {
	var g api.Graph
	for n := range api.MaxTxns {
		g.Known[n], g.Deps[n] = true, upTo(api.MaxTxns)
	}
	long := upTo(1 << 20)
	g.Deps[3], g.Deps[9] = long, long
	for n := range api.MaxTxns {
		if got := Order(g, n); !slices.Equal(got, upTo(api.MaxTxns)) {
			t.Errorf("Order of %d = %v", n, got)
		}
	}
}

// What holds everywhere: lists that are handed in stay as they are, with their spare room.
func TestListsAreLeftAlone(t *testing.T) {
	room := []int{9, 2, 9, -1, 7, 7, 7}
	g := graphOf(map[int][]int{5: room[:4], 2: room[1:2], 9: room[:1], 7: room[4:4]})
	keep := slices.Clone(room)
	for n := range api.MaxTxns {
		Reach(g, n)
		Ready(g, n)
		l := Order(g, n)
		for i := range l {
			l[i] = -5
		}
		_ = append(l, -6)
	}
	if !slices.Equal(room, keep) {
		t.Errorf("changed: %v", room)
	}
	if got := Order(g, 5); !slices.Equal(got, []int{2, 9, 5}) {
		t.Errorf("Order = %v", got)
	}
}
