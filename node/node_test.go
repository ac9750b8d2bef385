package node

import (
	"math"
	"math/rand"
	"reflect"
	"slices"
	"testing"

	"januspost/api"
	"januspost/graph"
	"januspost/wire"
)

func read(key int) api.Op     { return api.Op{Kind: api.Read, Key: key} }
func write(key, n int) api.Op { return api.Op{Kind: api.Write, Key: key, N: n} }
func add(key, n int) api.Op   { return api.Op{Kind: api.Add, Key: key, N: n} }

func ops(l ...api.Op) []api.Op { return l }
func list(l ...int) []int      { return l }

func ask(id int, l ...api.Op) api.Frame {
	return api.Frame{Kind: api.Ask, Id: id, Ops: l}
}

func commit(id int, deps []int, l ...api.Op) api.Frame {
	return api.Frame{Kind: api.Commit, Id: id, Ops: l, Deps: deps}
}

func told(id int, deps ...int) api.Frame {
	return api.Frame{Kind: api.Told, Id: id, Deps: deps}
}

func known(id int) api.Frame {
	return api.Frame{Kind: api.Known, Id: id}
}

func done(id int, at, values []int) api.Frame {
	return api.Frame{Kind: api.Done, Id: id, At: at, Values: values}
}

// sameFrames is whether frames are the same, whether lists without elements are nil or not.
func sameFrames(a, b []api.Frame) bool {
	return slices.EqualFunc(a, b, func(f, g api.Frame) bool {
		return f.Kind == g.Kind && f.Node == g.Node && f.Id == g.Id &&
			slices.Equal(f.Ops, g.Ops) && slices.Equal(f.Deps, g.Deps) &&
			slices.Equal(f.At, g.At) && slices.Equal(f.Values, g.Values)
	})
}

// sameEntry is whether entries are the same, whether lists without elements are nil or not.
func sameEntry(a, b api.Entry) bool {
	return a.State == b.State && slices.Equal(a.Ops, b.Ops) &&
		slices.Equal(a.First, b.First) && slices.Equal(a.Deps, b.Deps) &&
		slices.Equal(a.At, b.At) && slices.Equal(a.Values, b.Values)
}

// sameNode is whether states are the same, whether lists without elements are nil or not.
func sameNode(a, b api.Node) bool {
	for n := range a.Entries {
		if !sameEntry(a.Entries[n], b.Entries[n]) {
			return false
		}
	}
	return slices.Equal(a.Order, b.Order) && a.Values == b.Values
}

// nodeOf is a state in which just these were heard of.
func nodeOf(entries map[int]api.Entry, order ...int) api.Node {
	s := api.Node{Order: order}
	for n, e := range entries {
		s.Entries[n] = e
	}
	return s
}

// everyState is a good state with all lists, of which some have most that they may have.
func everyState() api.Node {
	return nodeOf(map[int]api.Entry{
		0:  {State: api.Executed, Ops: ops(write(2, 7), read(1), add(4, 1), read(6)), First: list(1, 31), Deps: list(31), At: list(0, 2, 3), Values: list(7, 1, 0)},
		5:  {State: api.Asked, Ops: ops(add(2, 1)), First: list(0)},
		9:  {State: api.Committed, Ops: ops(read(3)), First: list(0, 5), Deps: list(5, 20)},
		31: {State: api.Executed, Ops: ops(write(3, 1)), First: list(0), Deps: list(0)},
	}, 31, 0)
}

// changed is a state behind a change of one of its entries.
func changed(s api.Node, n int, change func(e *api.Entry)) api.Node {
	change(&s.Entries[n])
	return s
}

// upTo is the transactions below 32 but one of them.
func upTo(but int) []int {
	var l []int
	for n := range api.MaxTxns {
		if n != but {
			l = append(l, n)
		}
	}
	return l
}

// P5.1
func TestGood(t *testing.T) {
	wild := everyState()
	wild.Values = [api.Keys]int{math.MinInt, math.MaxInt, api.MaxValue + 1}
	var all api.Node
	for n := range all.Entries {
		all.Entries[n] = api.Entry{State: api.Executed, Ops: ops(read(n % api.Keys)), First: upTo(n), Deps: upTo(n)}
		all.Order = append(all.Order, (n*7+3)%api.MaxTxns)
	}
	for why, s := range map[string]api.Node{
		"zero":        {},
		"every state": everyState(),
		"lists without elements": changed(api.Node{Order: []int{}}, 3, func(e *api.Entry) {
			*e = api.Entry{Ops: []api.Op{}, First: []int{}, Deps: []int{}, At: []int{}, Values: []int{}}
		}),
		"keys of any value":                wild,
		"all executed, in another order":   all,
		"told what is no value":            changed(everyState(), 0, func(e *api.Entry) { e.Values = list(math.MinInt, math.MaxInt, 0) }),
		"told of operations of no shard":   changed(everyState(), 0, func(e *api.Entry) { e.At, e.Values = list(0, 1, 2, 3), list(0, 0, 0, 0) }),
		"told nothing":                     changed(everyState(), 0, func(e *api.Entry) { e.At, e.Values = nil, []int{} }),
		"committed, behind nothing":        changed(everyState(), 9, func(e *api.Entry) { e.First, e.Deps = nil, nil }),
		"behind what it has not heard of":  changed(everyState(), 5, func(e *api.Entry) { e.First = list(1, 2, 3, 4, 6) }),
		"executed behind what was not yet": changed(everyState(), 31, func(e *api.Entry) { e.Deps = list(5, 9, 17) }),
	} {
		if !Good(s) {
			t.Errorf("%s: not good", why)
		}
	}
}

// P5.1: the order, and the states.
func TestGoodRefusesOrder(t *testing.T) {
	for _, order := range [][]int{
		nil, {0}, {31}, {0, 31, 0}, {31, 0, 31}, {0, 0}, {31, 31}, {0, 31, 5}, {0, 31, 9}, {0, 31, 1}, {1, 31}, {0, 9},
		{0, 31, -1}, {0, 31, 32}, {-1, 0, 31}, {32, 0, 31}, {0, 31, math.MinInt}, {0, 31, math.MaxInt}, {0, 32}, {-1, 31},
		{0, 31, 256}, make([]int, 1000),
	} {
		s := everyState()
		s.Order = order
		if Good(s) {
			t.Errorf("good, with the order %v", order)
		}
	}
	for _, state := range []int{-1, 4, 5, 256, 259, math.MinInt, math.MaxInt} {
		for _, n := range []int{0, 1, 5, 9} {
			if Good(changed(everyState(), n, func(e *api.Entry) { e.State = state })) {
				t.Errorf("good, with %d in state %d", n, state)
			}
		}
		var s api.Node
		s.Entries[3].State = state
		if Good(s) {
			t.Errorf("good, with one of state %d of which all else is empty", state)
		}
	}
}

// P5.1: whoever was heard of has operations and lists that may be.
func TestGoodRefusesLists(t *testing.T) {
	for why, change := range map[string]func(e *api.Entry){
		"no operations":            func(e *api.Entry) { e.Ops = nil },
		"five operations":          func(e *api.Entry) { e.Ops = ops(read(0), read(1), read(2), read(3), read(4)) },
		"a key twice":              func(e *api.Entry) { e.Ops = ops(read(0), write(0, 1), read(1), read(2)) },
		"an operation of no key":   func(e *api.Entry) { e.Ops = ops(read(0), read(8), read(1), read(2)) },
		"an operation of no kind":  func(e *api.Entry) { e.Ops = ops(read(0), api.Op{Key: 4}, read(1), read(2)) },
		"an operation of no value": func(e *api.Entry) { e.Ops = ops(read(0), add(4, api.MaxValue+1), read(1), read(2)) },
		"First falls":              func(e *api.Entry) { e.First = list(3, 2) },
		"First has one twice":      func(e *api.Entry) { e.First = list(2, 2) },
		"First has 32":             func(e *api.Entry) { e.First = list(32) },
		"First has -1":             func(e *api.Entry) { e.First = list(-1) },
		"Values without At":        func(e *api.Entry) { e.At, e.Values = nil, list(0) },
		"At without Values":        func(e *api.Entry) { e.At, e.Values = list(0), nil },
	} {
		for _, n := range []int{0, 5, 9, 31} {
			if Good(changed(everyState(), n, change)) {
				t.Errorf("%s: good, of %d", why, n)
			}
		}
	}
	for _, n := range []int{0, 5, 9, 31} {
		for _, l := range [][]int{{n}, upTo(-1)} {
			if Good(changed(everyState(), n, func(e *api.Entry) { e.First = l })) {
				t.Errorf("good, with %d behind itself at first", n)
			}
			if Good(changed(everyState(), n, func(e *api.Entry) { e.Deps = l })) {
				t.Errorf("good, with %d behind itself", n)
			}
		}
		for _, l := range [][]int{{3, 2}, {2, 2}, {32}, {-1}, {math.MinInt}, {math.MaxInt}} {
			if Good(changed(everyState(), n, func(e *api.Entry) { e.Deps = l })) {
				t.Errorf("good, with %d behind %v", n, l)
			}
		}
	}
}

// P5.1: what one may have hangs on its state.
func TestGoodRefusesByState(t *testing.T) {
	for _, c := range []struct {
		why    string
		n      int
		change func(e *api.Entry)
	}{
		{"Nothing with operations", 1, func(e *api.Entry) { e.Ops = ops(read(0)) }},
		{"Nothing with First", 1, func(e *api.Entry) { e.First = list(0) }},
		{"Nothing with Deps", 1, func(e *api.Entry) { e.Deps = list(0) }},
		{"Nothing with At", 1, func(e *api.Entry) { e.At = list(0) }},
		{"Nothing with Values", 1, func(e *api.Entry) { e.Values = list(0) }},
		{"Nothing with a zero operation", 1, func(e *api.Entry) { e.Ops = ops(api.Op{}) }},
		{"Asked with Deps", 5, func(e *api.Entry) { e.Deps = list(0) }},
		{"Asked that was told", 5, func(e *api.Entry) { e.At, e.Values = list(0), list(0) }},
		{"Committed that was told", 9, func(e *api.Entry) { e.At, e.Values = list(0), list(0) }},
		{"a value too many", 0, func(e *api.Entry) { e.Values = list(0, 0, 0, 0) }},
		{"a value too few", 0, func(e *api.Entry) { e.Values = list(0, 0) }},
		{"At falls", 0, func(e *api.Entry) { e.At = list(0, 3, 2) }},
		{"At has one twice", 0, func(e *api.Entry) { e.At = list(0, 2, 2) }},
		{"At is below 0", 0, func(e *api.Entry) { e.At = list(-1, 0, 2) }},
		{"At goes beyond the operations", 0, func(e *api.Entry) { e.At = list(0, 2, 4) }},
		{"At goes far beyond", 0, func(e *api.Entry) { e.At = list(math.MinInt, 2, math.MaxInt) }},
		{"At goes beyond one operation", 31, func(e *api.Entry) { e.At, e.Values = list(1), list(0) }},
	} {
		if Good(changed(everyState(), c.n, c.change)) {
			t.Errorf("%s: good", c.why)
		}
	}
}

// P5.2: the errors, the first that applies; the node is as it was.
func TestTakeRefuses(t *testing.T) {
	good := everyState()
	bad := changed(everyState(), 1, func(e *api.Entry) { e.First = list(0) })
	even, odd := ask(7, read(0)), ask(7, read(1))
	on := func(node int, f api.Frame) api.Frame { f.Node = node; return f }
	for _, c := range []struct {
		why  string
		s    api.Node
		who  int
		f    api.Frame
		want api.Errno
	}{
		{"not good", bad, 0, even, api.ErrRange},
		{"not good, ahead of the frame's kind", bad, 0, api.Frame{Kind: 9}, api.ErrRange},
		{"not good, ahead of the shard", bad, 0, odd, api.ErrRange},
		{"node -1", good, -1, on(-1, even), api.ErrRange},
		{"node 6", good, 6, on(6, odd), api.ErrRange},
		{"least node", good, math.MinInt, on(math.MinInt, even), api.ErrRange},
		{"greatest node", good, math.MaxInt, on(math.MaxInt, odd), api.ErrRange},
		{"node 6, ahead of the frame's kind", good, 6, on(6, api.Frame{Kind: 0}), api.ErrRange},
		{"another node's", good, 1, even, api.ErrRange},
		{"another node's, ahead of the frame's kind", good, 1, api.Frame{Kind: 0}, api.ErrRange},
		{"another node's, ahead of form", good, 1, ask(7), api.ErrRange},
		{"another node's, of the kind Known", good, 1, known(7), api.ErrRange},

		{"a kind of none", good, 0, api.Frame{Kind: 0}, api.ErrKind},
		{"a kind of none, ahead of the id", good, 0, api.Frame{Kind: 6, Id: 32}, api.ErrKind},
		{"no transaction", good, 0, ask(32, read(0)), api.ErrRange},
		{"transaction -1", good, 0, commit(-1, nil, read(0)), api.ErrRange},
		{"no transaction, ahead of another kind", good, 0, known(32), api.ErrRange},
		{"without operations", good, 0, ask(7), api.ErrForm},
		{"Commit without operations", good, 0, commit(7, nil), api.ErrForm},
		{"Commit behind itself", good, 0, commit(7, list(7), read(0)), api.ErrForm},
		{"Commit of Deps that fall", good, 0, commit(7, list(2, 1), read(0)), api.ErrForm},
		{"Ask with Deps", good, 0, api.Frame{Kind: api.Ask, Id: 7, Ops: ops(read(0)), Deps: list(1)}, api.ErrForm},
		{"form ahead of the shard", good, 0, ask(7, read(1), read(1)), api.ErrForm},
		{"form ahead of another kind", good, 0, api.Frame{Kind: api.Known, Id: 7, Ops: ops(read(0))}, api.ErrForm},

		{"Told", good, 0, told(7, 1), api.ErrKind},
		{"Known", good, 0, known(7), api.ErrKind},
		{"Done", good, 0, done(7, list(0), list(0)), api.ErrKind},

		{"Ask of another shard", good, 0, odd, api.ErrNone},
		{"Ask of another shard, node 2", good, 2, on(2, ask(7, write(1, 1), add(7, 1))), api.ErrNone},
		{"Ask of another shard, node 3", good, 3, on(3, even), api.ErrNone},
		{"Ask of another shard, node 5", good, 5, on(5, even), api.ErrNone},
		{"Ask of another shard, of one that is asked already", good, 0, ask(5, read(1)), api.ErrNone},
		{"Ask of another shard, of one that is committed", good, 0, ask(9, read(3)), api.ErrNone},
	} {
		s, l, e := Take(c.s, c.who, c.f)
		if e != c.want || len(l) != 0 {
			t.Errorf("%s: %v, %d, want %d", c.why, l, e, c.want)
		}
		if !reflect.DeepEqual(s, c.s) {
			t.Errorf("%s: the node is not as it was", c.why)
		}
	}
}

// step is a frame that comes to a node, its answers, and what the node has then done, in order.
type step struct {
	f     api.Frame
	want  []api.Frame
	order []int
}

// run takes frames, one by one, from a state on.
func run(t *testing.T, why string, s api.Node, who int, steps ...step) api.Node {
	t.Helper()
	for i, c := range steps {
		c.f.Node = who
		for k := range c.want {
			c.want[k].Node = who
		}
		next, l, e := Take(s, who, c.f)
		if e != api.OK || !sameFrames(l, c.want) {
			t.Errorf("%s, %d: %+v, %d, want %+v", why, i, l, e, c.want)
		}
		if !Good(next) || !slices.Equal(next.Order, c.order) {
			t.Errorf("%s, %d: good is %v, the order %v, want %v", why, i, Good(next), next.Order, c.order)
		}
		s = next
	}
	return s
}

func answers(l ...api.Frame) []api.Frame { return l }

// P5.2: what stands ahead is what was heard of and is in the way at this shard, in whichever state; what was first told is told again.
func TestAsk(t *testing.T) {
	s := run(t, "even", api.Node{}, 2,
		step{ask(4, write(2, 1), write(1, 1)), answers(told(4)), nil},
		step{ask(3, add(2, 1)), answers(told(3, 4)), nil},
		step{ask(9, read(2), read(1)), answers(told(9, 3, 4)), nil},
		step{ask(0, read(2)), answers(told(0, 3, 4)), nil},
		step{ask(31, write(2, 0)), answers(told(31, 0, 3, 4, 9)), nil},
		step{ask(8, write(0, 5), add(1, 1)), answers(told(8)), nil},
		step{ask(4, write(2, 1), write(1, 1)), answers(told(4)), nil},
		step{ask(3, write(0, 1), read(2)), answers(told(3, 4)), nil},
	)
	for n, want := range map[int]api.Entry{
		4:  {State: api.Asked, Ops: ops(write(2, 1), write(1, 1))},
		3:  {State: api.Asked, Ops: ops(add(2, 1)), First: list(4)},
		9:  {State: api.Asked, Ops: ops(read(2), read(1)), First: list(3, 4)},
		8:  {State: api.Asked, Ops: ops(write(0, 5), add(1, 1))},
		31: {State: api.Asked, Ops: ops(write(2, 0)), First: list(0, 3, 4, 9)},
		5:  {},
	} {
		if !sameEntry(s.Entries[n], want) {
			t.Errorf("%d is %+v, want %+v", n, s.Entries[n], want)
		}
	}
	if s.Values != [api.Keys]int{} {
		t.Errorf("asking changed the keys: %v", s.Values)
	}
	run(t, "odd", api.Node{}, 3,
		step{ask(4, write(2, 1), write(1, 1)), answers(told(4)), nil},
		step{ask(9, read(2), read(1)), answers(told(9, 4)), nil},
		step{ask(3, add(2, 1), read(3)), answers(told(3)), nil},
	)
}

// P5.2, P5.3: Committed and Executed stand ahead as Asked does, and are told what First was.
func TestAskOfEachState(t *testing.T) {
	s := everyState()
	run(t, "each state", s, 0,
		step{ask(1, add(2, 1)), answers(told(1, 0, 5)), list(31, 0)},
		step{ask(0, write(2, 9)), answers(told(0, 1, 31)), list(31, 0)},
		step{ask(5, add(2, 1)), answers(told(5, 0)), list(31, 0)},
		step{ask(9, write(0, 1)), answers(told(9, 0, 5)), list(31, 0)},
		step{ask(31, write(0, 1), read(3)), answers(told(31, 0)), list(31, 0)},
	)
	run(t, "each state, odd", s, 4,
		step{ask(1, write(3, 1)), answers(told(1, 9, 31)), list(31, 0)},
		step{ask(2, read(3), read(2)), answers(told(2, 1, 31)), list(31, 0)},
		step{ask(6, write(1, 1)), answers(told(6, 0)), list(31, 0)},
	)
}

// P5.3: First is fixed by the first frame, be it Ask or Commit; Ops and Deps by the first Commit.
func TestCommitFixes(t *testing.T) {
	s := run(t, "fixes", api.Node{}, 0,
		step{ask(7, write(0, 1)), answers(told(7)), nil},
		step{ask(2, write(0, 2)), answers(told(2, 7)), nil},
		step{ask(5, write(4, 1)), answers(told(5)), nil},
		step{commit(2, list(3), add(4, 2), add(1, 2)), answers(known(2)), nil},
		step{commit(6, list(7, 20), add(0, 6), read(4)), answers(known(6)), nil},
		step{commit(2, nil, write(6, 1)), answers(known(2)), nil},
		step{ask(2, write(6, 1)), answers(told(2, 7)), nil},
		step{ask(6, write(6, 1)), answers(told(6, 2, 5, 7)), nil},
	)
	for n, want := range map[int]api.Entry{
		2: {State: api.Committed, Ops: ops(add(4, 2), add(1, 2)), First: list(7), Deps: list(3)},
		6: {State: api.Committed, Ops: ops(add(0, 6), read(4)), First: list(2, 5, 7), Deps: list(7, 20)},
		7: {State: api.Asked, Ops: ops(write(0, 1))},
	} {
		if !sameEntry(s.Entries[n], want) {
			t.Errorf("%d is %+v, want %+v", n, s.Entries[n], want)
		}
	}
}

// P5.3: what is executed told its operations of the shard, by their order; a Commit that comes again is answered the same.
func TestExecutes(t *testing.T) {
	all := ops(write(3, 8), add(2, 5), read(1), write(0, -4))
	even := step{commit(1, nil, all...), answers(known(1), done(1, list(1, 3), list(5, -4))), list(1)}
	again := step{commit(1, list(9), add(2, 100)), even.want, list(1)}
	s := run(t, "even", api.Node{}, 1, even, again)
	if s.Values != [api.Keys]int{0: -4, 2: 5} {
		t.Errorf("the values are %v", s.Values)
	}
	want := api.Entry{State: api.Executed, Ops: all, At: list(1, 3), Values: list(5, -4)}
	if !sameEntry(s.Entries[1], want) {
		t.Errorf("%+v, want %+v", s.Entries[1], want)
	}
	run(t, "even, more", s, 1,
		step{commit(2, list(1), add(2, -7), read(0)), answers(known(2), done(2, list(0, 1), list(-2, -4))), list(1, 2)},
		step{commit(3, nil, write(0, api.MaxValue), write(2, -api.MaxValue)), answers(known(3), done(3, list(0, 1), list(api.MaxValue, -api.MaxValue))), list(1, 2, 3)},
		step{commit(4, nil, add(0, 1), add(2, -1)), answers(known(4), done(4, list(0, 1), list(api.MaxValue, -api.MaxValue))), list(1, 2, 3, 4)},
		step{again.f, again.want, list(1, 2, 3, 4)},
	)
}

// P5.3: a node of the other shard does the other operations, and tells nothing of what has none there.
func TestExecutesAtTheOtherShard(t *testing.T) {
	s := run(t, "odd", api.Node{}, 5,
		step{commit(1, nil, write(3, 8), add(2, 5), read(1), write(0, -4)), answers(known(1), done(1, list(0, 2), list(8, 0))), list(1)},
		step{commit(0, list(1), write(2, 1), write(4, 1)), answers(known(0)), list(1, 0)},
		step{commit(0, list(1), write(3, 1)), answers(known(0)), list(1, 0)},
		step{commit(7, list(0, 1), read(3)), answers(known(7), done(7, list(0), list(8))), list(1, 0, 7)},
	)
	if s.Values != [api.Keys]int{3: 8} {
		t.Errorf("the values are %v", s.Values)
	}
	want := api.Entry{State: api.Executed, Ops: ops(write(2, 1), write(4, 1)), Deps: list(1)}
	if !sameEntry(s.Entries[0], want) {
		t.Errorf("%+v, want %+v", s.Entries[0], want)
	}
}

// P5.3: what is told of is not what was asked, but what is committed; nothing is told of a shard that is not touched.
func TestDoneByWhatWasCommitted(t *testing.T) {
	run(t, "asked of both, committed of one", api.Node{}, 0,
		step{ask(1, write(0, 1)), answers(told(1)), nil},
		step{commit(1, nil, write(1, 1)), answers(known(1)), list(1)},
		step{commit(1, nil, write(0, 1)), answers(known(1)), list(1)},
		step{ask(2, write(0, 1)), answers(told(2)), list(1)},
	)
	empty := nodeOf(map[int]api.Entry{3: {State: api.Executed, Ops: ops(read(0))}}, 3)
	run(t, "touches, and told nothing", empty, 0, step{commit(3, nil, read(1)), answers(known(3), done(3, nil, nil)), list(3)})
	other := nodeOf(map[int]api.Entry{3: {State: api.Executed, Ops: ops(read(1)), At: list(0), Values: list(5)}}, 3)
	run(t, "does not touch, and told something", other, 0, step{commit(3, nil, read(0)), answers(known(3)), list(3)})
}

// P5.3: who hangs on what is not committed waits, however far that is; all that waited for it is done when it comes.
func TestWaits(t *testing.T) {
	s := run(t, "waits", api.Node{}, 1,
		step{ask(9, write(2, 1)), answers(told(9)), nil},
		step{commit(1, list(2), add(2, 1)), answers(known(1)), nil},
		step{commit(2, list(9), add(2, 10)), answers(known(2)), nil},
		step{commit(30, nil, write(4, 1)), answers(known(30), done(30, list(0), list(1))), list(30)},
		step{commit(0, list(1), add(2, 100)), answers(known(0)), list(30)},
		step{commit(1, list(2), add(2, 1)), answers(known(1)), list(30)},
		step{commit(9, list(30), write(2, 1000)), answers(known(9), done(9, list(0), list(1000))), list(30, 9, 2, 1, 0)},
		step{commit(0, list(1), add(2, 100)), answers(known(0), done(0, list(0), list(1111))), list(30, 9, 2, 1, 0)},
		step{commit(1, list(2), add(2, 1)), answers(known(1), done(1, list(0), list(1011))), list(30, 9, 2, 1, 0)},
		step{commit(2, list(9), add(2, 10)), answers(known(2), done(2, list(0), list(1010))), list(30, 9, 2, 1, 0)},
	)
	if s.Values != [api.Keys]int{2: 1111, 4: 1} {
		t.Errorf("the values are %v", s.Values)
	}
}

// P5.3: rings go by number; what stands ahead of a ring goes ahead of all of it.
func TestRings(t *testing.T) {
	run(t, "a ring of two", api.Node{}, 0,
		step{commit(8, list(5), write(0, 8)), answers(known(8)), nil},
		step{commit(5, list(8), write(0, 5)), answers(known(5), done(5, list(0), list(5))), list(5, 8)},
		step{commit(8, list(5), write(0, 8)), answers(known(8), done(8, list(0), list(8))), list(5, 8)},
	)
	run(t, "one ahead of a ring", api.Node{}, 0,
		step{commit(1, list(2), add(0, 1)), answers(known(1)), nil},
		step{commit(2, list(3), add(0, 2)), answers(known(2)), nil},
		step{commit(3, list(1, 31), add(0, 3)), answers(known(3)), nil},
		step{commit(0, list(3), read(0)), answers(known(0)), nil},
		step{commit(31, nil, write(0, 100)), answers(known(31), done(31, list(0), list(100))), list(31, 1, 2, 3, 0)},
		step{commit(0, nil, read(0)), answers(known(0), done(0, list(0), list(106))), list(31, 1, 2, 3, 0)},
	)
}

// P5.3: those that are ready side by side go by their numbers, each with what it waits for.
func TestTransactionByTransaction(t *testing.T) {
	run(t, "by number, not by what is ahead", api.Node{}, 0,
		step{commit(3, list(20, 25), read(0)), answers(known(3)), nil},
		step{commit(10, list(25), read(0)), answers(known(10)), nil},
		step{commit(20, list(25), read(0)), answers(known(20)), nil},
		step{commit(1, list(10), read(0)), answers(known(1)), nil},
		step{commit(25, nil, read(0)), answers(known(25), done(25, list(0), list(0))), list(25, 10, 1, 20, 3)},
	)
}

// P5.3: a good state in which something was left undone: any Commit that is new does it; one that was there already is only answered.
func TestLeftUndone(t *testing.T) {
	left := nodeOf(map[int]api.Entry{
		4: {State: api.Committed, Ops: ops(add(0, 4)), Deps: list(6)},
		6: {State: api.Executed, Ops: ops(add(0, 6)), Deps: list(4)},
		8: {State: api.Committed, Ops: ops(add(0, 8))},
	}, 6)
	left.Values[0] = 50
	run(t, "a new one", left, 0,
		step{commit(2, list(9), read(2)), answers(known(2)), list(6, 4, 8)},
		step{commit(8, nil, read(0)), answers(known(8), done(8, list(0), list(62))), list(6, 4, 8)},
	)
	behind := nodeOf(map[int]api.Entry{
		1: {State: api.Executed, Ops: ops(read(0)), Deps: list(9)},
		5: {State: api.Committed, Ops: ops(add(0, 5))},
		9: {State: api.Committed, Ops: ops(add(0, 9))},
	}, 1)
	run(t, "what is ahead of one that was executed has no haste", behind, 0,
		step{commit(30, nil, read(0)), answers(known(30), done(30, list(0), list(14))), list(1, 5, 9, 30)},
	)
	run(t, "one that was there already", left, 0,
		step{commit(8, nil, add(0, 8)), answers(known(8)), list(6)},
		step{commit(6, nil, add(0, 8)), answers(known(6), done(6, nil, nil)), list(6)},
		step{ask(7, read(0)), answers(told(7, 4, 6, 8)), list(6)},
	)
}

// What holds everywhere: no state and no frame makes a call panic; a state that is not good is answered as it was.
func TestWildStates(t *testing.T) {
	r := rand.New(rand.NewSource(50))
	number := func() int {
		wild := list(-1, 4, 5, 31, 32, 256, math.MinInt, math.MaxInt, api.MaxValue+1, r.Int())
		return slices.Concat(wild, list(0, 1, 2, 3, 0, 1, 2, 3))[r.Intn(len(wild)+8)]
	}
	numbers := func() []int {
		var l []int
		for range r.Intn(4) {
			l = append(l, number())
		}
		return l
	}
	operations := func() []api.Op {
		var l []api.Op
		for range r.Intn(6) {
			l = append(l, api.Op{Kind: number(), Key: number(), N: number()})
		}
		return l
	}
	for range 3000 {
		s := everyState()
		for range 1 + r.Intn(3) {
			s.Entries[r.Intn(api.MaxTxns)] = api.Entry{State: number(), Ops: operations(), First: numbers(), Deps: numbers(), At: numbers(), Values: numbers()}
		}
		if r.Intn(3) == 0 {
			s.Order = numbers()
		}
		who := number()
		f := api.Frame{Kind: number(), Node: who, Id: number(), Ops: operations(), Deps: numbers(), At: numbers(), Values: numbers()}
		Graph(s)
		next, l, e := Take(s, who, f)
		if !Good(s) && e != api.ErrRange || e != api.OK && (len(l) > 0 || !reflect.DeepEqual(next, s)) {
			t.Fatalf("%+v, %d, %+v: %+v, %d", s, who, f, l, e)
		}
	}
}

// P5.3: the values of a node are brought to the bounds by what is done to them, and only then.
func TestValuesBeyondTheBounds(t *testing.T) {
	var s api.Node
	s.Values = [api.Keys]int{0: math.MaxInt, 1: math.MaxInt, 2: math.MinInt, 4: math.MinInt, 6: math.MaxInt}
	s = run(t, "beyond", s, 0,
		step{commit(0, nil, read(0), read(1), add(2, 1), write(4, 3)), answers(known(0), done(0, list(0, 2, 3), list(api.MaxValue, 1-api.MaxValue, 3))), list(0)},
	)
	want := [api.Keys]int{0: api.MaxValue, 1: math.MaxInt, 2: 1 - api.MaxValue, 4: 3, 6: math.MaxInt}
	if s.Values != want {
		t.Errorf("the values are %v, want %v", s.Values, want)
	}
}

// P5.3
func TestGraph(t *testing.T) {
	s := nodeOf(map[int]api.Entry{
		0:  {State: api.Executed, Deps: list(3)},
		1:  {State: api.Committed, Deps: list(9, 2, -1, 2)},
		2:  {State: api.Asked, Deps: list(1)},
		3:  {Deps: list(math.MinInt, 3)},
		4:  {State: 4, Deps: list(32)},
		5:  {State: math.MaxInt},
		6:  {State: -1, Deps: list(6)},
		7:  {State: math.MinInt},
		31: {State: api.Committed, First: list(1), Deps: []int{}},
	}, 8, 8, -1)
	g := Graph(s)
	for n := range api.MaxTxns {
		if want := slices.Contains(list(0, 1, 4, 5, 31), n); g.Known[n] != want {
			t.Errorf("Known of %d is %v", n, g.Known[n])
		}
		if !slices.Equal(g.Deps[n], s.Entries[n].Deps) {
			t.Errorf("Deps of %d are %v", n, g.Deps[n])
		}
	}
	g = Graph(everyState())
	if !g.Known[0] || g.Known[5] || !g.Known[9] || !g.Known[31] || g.Known[1] || !slices.Equal(g.Deps[9], list(5, 20)) {
		t.Errorf("%+v", g)
	}
}

// encoded is frames of a node as bytes.
func encoded(t *testing.T, who int, l ...api.Frame) []string {
	t.Helper()
	var texts []string
	for _, f := range l {
		f.Node = who
		s, e := wire.Encode(f)
		if e != api.OK {
			t.Fatalf("%+v: %d", f, e)
		}
		texts = append(texts, s)
	}
	return texts
}

// P5.4
func TestReplay(t *testing.T) {
	for who := range api.Nodes {
		if s, e := Replay(who, nil); e != api.OK || !sameNode(s, api.Node{}) {
			t.Errorf("Replay of nothing at %d: %v, %d", who, s, e)
		}
		frames := []api.Frame{
			ask(4, write(0, 4), write(1, 4)),
			ask(2, add(0, 2), add(1, 2)),
			commit(2, list(4), add(0, 2), add(1, 2)),
			commit(2, list(4), add(0, 2), add(1, 2)),
			commit(9, list(11), read(0)),
			commit(4, nil, write(0, 4), write(1, 4)),
		}
		var want api.Node
		for _, f := range frames {
			f.Node = who
			want, _, _ = Take(want, who, f)
		}
		s, e := Replay(who, encoded(t, who, frames...))
		if e != api.OK || !sameNode(s, want) || !slices.Equal(s.Order, list(4, 2)) || s.Values[who/api.Copies] != 6 {
			t.Errorf("Replay at %d: %+v, %d", who, s, e)
		}
	}
}

// P5.4: the first error, and nothing with it.
func TestReplayRefuses(t *testing.T) {
	good := encoded(t, 1, commit(0, nil, write(2, 1)))[0]
	other := encoded(t, 2, commit(0, nil, write(2, 1)))[0]
	kind := encoded(t, 1, known(0))[0]
	shard := encoded(t, 1, ask(3, read(1)))[0]
	for _, c := range []struct {
		who  int
		l    []string
		want api.Errno
	}{
		{-1, nil, api.ErrRange},
		{6, nil, api.ErrRange},
		{math.MinInt, nil, api.ErrRange},
		{math.MaxInt, []string{}, api.ErrRange},
		{6, []string{"x"}, api.ErrRange},
		{-1, []string{good}, api.ErrRange},
		{2, []string{good}, api.ErrRange},
		{1, []string{""}, api.ErrForm},
		{1, []string{"x"}, api.ErrForm},
		{1, []string{good, good[1:]}, api.ErrForm},
		{1, []string{good + "x"}, api.ErrForm},
		{1, []string{good, other}, api.ErrRange},
		{1, []string{good, kind}, api.ErrKind},
		{1, []string{shard}, api.ErrNone},
		{1, []string{good, shard, "x"}, api.ErrNone},
		{1, []string{good, "x", shard}, api.ErrForm},
		{1, []string{kind, other, good}, api.ErrKind},
		{1, []string{other, kind, good}, api.ErrRange},
	} {
		if s, e := Replay(c.who, c.l); e != c.want || !reflect.ValueOf(s).IsZero() {
			t.Errorf("Replay(%d, %q) = %+v, %d, want %d", c.who, c.l, s, e, c.want)
		}
	}
}

// P5.4: texts that make no progress any more still end.
func TestReplayOfMany(t *testing.T) {
	l := encoded(t, 0, ask(1, write(0, 1)), commit(2, list(1), add(0, 1)), commit(1, nil, write(0, 1)))
	s, e := Replay(0, slices.Repeat(l, 2000))
	if e != api.OK || !slices.Equal(s.Order, list(1, 2)) || s.Values[0] != 2 {
		t.Errorf("%v, %v, %d", s.Order, s.Values, e)
	}
}

// roomy is a state like another, whose lists all have spare room, filled.
func roomy(s api.Node) api.Node {
	more := func(l []int) []int { return slices.Concat(l, list(7, 7, 7))[:len(l)] }
	for n, e := range s.Entries {
		e.Ops = slices.Concat(e.Ops, ops(read(7), read(7), read(7)))[:len(e.Ops)]
		e.First, e.Deps, e.At, e.Values = more(e.First), more(e.Deps), more(e.At), more(e.Values)
		s.Entries[n] = e
	}
	s.Order = more(s.Order)
	return s
}

// spill writes into all lists of a state, and behind them.
func spill(s api.Node) {
	fill := func(l []int) {
		l = l[:cap(l)]
		for i := range l {
			l[i] = -5
		}
	}
	for _, e := range s.Entries {
		l := e.Ops[:cap(e.Ops)]
		for i := range l {
			l[i] = read(-5)
		}
		fill(e.First)
		fill(e.Deps)
		fill(e.At)
		fill(e.Values)
	}
	fill(s.Order)
}

// whole is a state with the spare room of all its lists laid open.
func whole(s api.Node) api.Node {
	for n, e := range s.Entries {
		e.Ops, e.First, e.Deps = slices.Clone(e.Ops[:cap(e.Ops)]), slices.Clone(e.First[:cap(e.First)]), slices.Clone(e.Deps[:cap(e.Deps)])
		e.At, e.Values = slices.Clone(e.At[:cap(e.At)]), slices.Clone(e.Values[:cap(e.Values)])
		s.Entries[n] = e
	}
	s.Order = slices.Clone(s.Order[:cap(s.Order)])
	return s
}

// What holds everywhere: lists that are handed in stay as they are, with their spare room, also when what was answered is written to.
func TestListsAreLeftAlone(t *testing.T) {
	frames := []api.Frame{
		ask(1, add(2, 1), read(4)),
		ask(0, read(2)),
		commit(1, nil, add(2, 1), read(4)),
		commit(5, list(0, 31), add(2, 1), read(4)),
		commit(20, list(5), write(0, 1)),
		commit(0, nil, read(2)),
		known(3),
	}
	for _, f := range frames {
		s := roomy(everyState())
		f.Ops, f.Deps = slices.Concat(f.Ops, ops(read(7)))[:len(f.Ops)], slices.Concat(f.Deps, list(7))[:len(f.Deps)]
		keep, keepOps, keepDeps := whole(s), slices.Clone(f.Ops[:cap(f.Ops)]), slices.Clone(f.Deps[:cap(f.Deps)])
		next, l, _ := Take(s, 0, f)
		shown := Graph(s)
		good := Good(s)
		var lists api.Node
		for i, a := range l {
			lists.Entries[i] = api.Entry{Ops: a.Ops, First: a.Deps, At: a.At, Values: a.Values}
		}
		before := whole(next)
		spill(lists)
		if !sameNode(whole(next), before) {
			t.Errorf("%+v: the answers share memory with the state", f)
		}
		spill(next)
		for _, d := range shown.Deps {
			spill(api.Node{Order: d})
		}
		if !good || !sameNode(whole(s), keep) {
			t.Errorf("%+v: the state that was handed in is changed", f)
		}
		if !slices.Equal(f.Ops[:cap(f.Ops)], keepOps) || !slices.Equal(f.Deps[:cap(f.Deps)], keepDeps) {
			t.Errorf("%+v: the frame's lists are changed", f)
		}
	}
}

// Separate: the same, good or not, in memory of its own.
func TestSeparate(t *testing.T) {
	for _, s := range []api.Node{{}, roomy(everyState()), roomy(nodeOf(map[int]api.Entry{7: {State: 9, At: list(-1), Values: list(1, 2)}}, 40, 40))} {
		s.Values[3] = 5
		keep := whole(s)
		own := Separate(s)
		if !sameNode(own, s) {
			t.Errorf("%+v, want %+v", own, s)
		}
		spill(own)
		if !sameNode(whole(s), keep) {
			t.Errorf("%+v: changed by what was answered", keep)
		}
	}
}

// What holds everywhere: two ways on from one state don't disturb each other.
func TestTwoWaysFromOneState(t *testing.T) {
	s := run(t, "begin", api.Node{}, 0,
		step{commit(1, nil, add(0, 1)), answers(known(1), done(1, list(0), list(1))), list(1)},
		step{commit(2, nil, add(0, 1)), answers(known(2), done(2, list(0), list(2))), list(1, 2)},
		step{commit(3, nil, add(0, 1)), answers(known(3), done(3, list(0), list(3))), list(1, 2, 3)},
	)
	a := run(t, "one way", s, 0, step{commit(4, nil, add(0, 1)), answers(known(4), done(4, list(0), list(4))), list(1, 2, 3, 4)})
	b := run(t, "the other", s, 0, step{commit(5, nil, add(0, 9)), answers(known(5), done(5, list(0), list(12))), list(1, 2, 3, 5)})
	if !slices.Equal(a.Order, list(1, 2, 3, 4)) || !slices.Equal(b.Order, list(1, 2, 3, 5)) || !slices.Equal(s.Order, list(1, 2, 3)) {
		t.Errorf("%v, %v, %v", s.Order, a.Order, b.Order)
	}
}

// someOps is operations of up to four keys, of few keys in all, so that many are in one another's way.
func someOps(r *rand.Rand) []api.Op {
	var l []api.Op
	for _, key := range r.Perm(5)[:1+r.Intn(api.MaxOps)] {
		o := api.Op{Kind: 1 + r.Intn(3), Key: key}
		if o.Kind != api.Read {
			o.N = r.Intn(200) - 100
		}
		l = append(l, o)
	}
	return l
}

// inTheWay is what stands ahead of a frame's operations at a shard, by the words of the promise.
func inTheWay(s api.Node, f api.Frame, shard int) []int {
	var l []int
	for n, e := range s.Entries {
		is := false
		for _, o := range e.Ops {
			for _, p := range f.Ops {
				is = is || o.Key == p.Key && o.Key%2 == shard && o.Kind+p.Kind > 2*api.Read
			}
		}
		if is && n != f.Id {
			l = append(l, n)
		}
	}
	return l
}

// heldToOrder is whether the values of a node, and what it told, are as if all of its order was done one after the other.
func heldToOrder(s api.Node, shard int) bool {
	var values [api.Keys]int
	for _, n := range s.Order {
		var at, told []int
		for i, o := range s.Entries[n].Ops {
			if o.Key%2 != shard {
				continue
			}
			switch o.Kind {
			case api.Write:
				values[o.Key] = o.N
			case api.Add:
				values[o.Key] += o.N
			}
			at, told = append(at, i), append(told, values[o.Key])
		}
		if !slices.Equal(s.Entries[n].At, at) || !slices.Equal(s.Entries[n].Values, told) {
			return false
		}
	}
	return s.Values == values
}

// heldToGraph is whether just what is ready is executed, each behind what it hangs on, and rings by number.
func heldToGraph(s api.Node) bool {
	g := Graph(s)
	for n, e := range s.Entries {
		if graph.Ready(g, n) != (e.State == api.Executed) {
			return false
		}
	}
	for i, n := range s.Order {
		for _, m := range s.Order[:i] {
			behind, ahead := graph.Reach(g, m)[n], graph.Reach(g, n)[m]
			if behind && (!ahead || m > n) {
				return false
			}
		}
	}
	return true
}

// wanted is the entry of a frame's transaction behind that frame, but for its being executed.
func wanted(s api.Node, f api.Frame, shard int) api.Entry {
	e := s.Entries[f.Id]
	if e.State == api.Nothing {
		e.State, e.Ops, e.First = api.Asked, f.Ops, inTheWay(s, f, shard)
	}
	if f.Kind == api.Commit && e.State == api.Asked {
		e.State, e.Ops, e.Deps = api.Committed, f.Ops, f.Deps
	}
	return e
}

// wantedAnswers is the answers to a frame, from the state behind it.
func wantedAnswers(next api.Node, f api.Frame) []api.Frame {
	e := next.Entries[f.Id]
	l := answers(told(f.Id, e.First...))
	if f.Kind == api.Commit {
		l = answers(known(f.Id))
		if e.State == api.Executed && len(e.At) > 0 {
			l = append(l, done(f.Id, e.At, e.Values))
		}
	}
	for i := range l {
		l[i].Node = f.Node
	}
	return l
}

// P5.1 to P5.4: frames of all kinds, in any order, some again and some with other operations: each state is what the one ahead of it and the promises' words say, and the frames that were taken lead there anew.
func TestManyFrames(t *testing.T) {
	r := rand.New(rand.NewSource(5))
	for round := range 120 {
		who, txns := r.Intn(api.Nodes), 3+r.Intn(api.MaxTxns-2)
		shard := who / api.Copies
		var s api.Node
		var taken []string
		for range 3 * txns {
			f := api.Frame{Kind: api.Ask, Node: who, Id: r.Intn(txns), Ops: someOps(r)}
			if r.Intn(3) > 0 {
				f.Kind = api.Commit
				for n := range txns {
					if n != f.Id && r.Intn(txns) < round%3 {
						f.Deps = append(f.Deps, n)
					}
				}
			}
			next, l, e := Take(s, who, f)
			if e != api.OK {
				if !slices.ContainsFunc(f.Ops, func(o api.Op) bool { return o.Key%2 == shard }) && f.Kind == api.Ask && e == api.ErrNone {
					continue
				}
				t.Fatalf("%+v: %d", f, e)
			}
			for n := range s.Entries {
				want, got := s.Entries[n], next.Entries[n]
				if n == f.Id {
					want = wanted(s, f, shard)
				}
				if want.State == api.Committed && got.State == api.Executed {
					want.State, want.At, want.Values = api.Executed, got.At, got.Values
				}
				if !sameEntry(got, want) {
					t.Fatalf("%+v: %d is %+v, want %+v", f, n, got, want)
				}
			}
			if !slices.Equal(next.Order[:len(s.Order)], s.Order) || !sameFrames(l, wantedAnswers(next, f)) {
				t.Fatalf("%+v: %v behind %v, answers %+v", f, next.Order, s.Order, l)
			}
			if !Good(next) || !heldToOrder(next, shard) || !heldToGraph(next) {
				t.Fatalf("%+v: from %+v to %+v", f, s, next)
			}
			taken = append(taken, encoded(t, who, f)...)
			s = next
		}
		if again, e := Replay(who, taken); e != api.OK || !sameNode(again, s) {
			t.Fatalf("Replay of %q: %d", taken, e)
		}
	}
}

// asks tells what most copies of each shard that is touched say stands ahead of each transaction, each copy having heard of all in an order of its own.
func asks(t *testing.T, r *rand.Rand, nodes *[api.Nodes]api.Node, txns [][]api.Op) [][]int {
	t.Helper()
	deps := make([][]int, len(txns))
	told := make([][api.Shards]int, len(txns))
	for _, who := range r.Perm(api.Nodes) {
		for _, id := range r.Perm(len(txns)) {
			s, l, e := Take(nodes[who], who, api.Frame{Kind: api.Ask, Node: who, Id: id, Ops: txns[id]})
			if e == api.ErrNone {
				continue
			}
			if e != api.OK || len(l) != 1 {
				t.Fatalf("%v, %d", l, e)
			}
			nodes[who] = s
			if told[id][who/api.Copies]++; told[id][who/api.Copies] <= api.Most {
				deps[id] = append(deps[id], l[0].Deps...)
			}
		}
	}
	for id := range deps {
		slices.Sort(deps[id])
		deps[id] = slices.Compact(deps[id])
	}
	return deps
}

// P5.2, P5.3: what the copies of a shard tell is the same, in whichever order they heard of what most of them said stands ahead.
func TestCopiesAgree(t *testing.T) {
	r := rand.New(rand.NewSource(55))
	for range 60 {
		var nodes [api.Nodes]api.Node
		txns := make([][]api.Op, 2+r.Intn(12))
		for id := range txns {
			txns[id] = someOps(r)
		}
		deps := asks(t, r, &nodes, txns)
		for who := range nodes {
			for _, id := range r.Perm(len(txns)) {
				s, _, e := Take(nodes[who], who, api.Frame{Kind: api.Commit, Node: who, Id: id, Ops: txns[id], Deps: deps[id]})
				if e != api.OK {
					t.Fatalf("%d", e)
				}
				nodes[who] = s
			}
			first := nodes[who-who%api.Copies]
			if len(nodes[who].Order) != len(txns) || nodes[who].Values != first.Values {
				t.Fatalf("%d has %v, %v, want %v", who, nodes[who].Order, nodes[who].Values, first.Values)
			}
			for id := range txns {
				if !slices.Equal(nodes[who].Entries[id].Values, first.Entries[id].Values) {
					t.Fatalf("%d tells %v of %d, want %v", who, nodes[who].Entries[id].Values, id, first.Entries[id].Values)
				}
			}
		}
	}
}
