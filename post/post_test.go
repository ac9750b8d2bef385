package post

import (
	"math"
	"math/rand"
	"reflect"
	"slices"
	"testing"

	"januspost/api"
	"januspost/node"
	"januspost/wire"
)

func read(key int) api.Op     { return api.Op{Kind: api.Read, Key: key} }
func write(key, n int) api.Op { return api.Op{Kind: api.Write, Key: key, N: n} }
func add(key, n int) api.Op   { return api.Op{Kind: api.Add, Key: key, N: n} }

func ops(l ...api.Op) []api.Op          { return l }
func list(l ...int) []int               { return l }
func frames(l ...api.Frame) []api.Frame { return l }

func told(n int, deps ...int) api.Frame {
	return api.Frame{Kind: api.Told, Node: n, Id: 5, Deps: deps}
}

func known(n int) api.Frame {
	return api.Frame{Kind: api.Known, Node: n, Id: 5}
}

func done(n int, at, values []int) api.Frame {
	return api.Frame{Kind: api.Done, Node: n, Id: 5, At: at, Values: values}
}

// asksTo is the Asks of a transaction to these nodes.
func asksTo(id int, l []api.Op, nodes ...int) []api.Frame {
	var all []api.Frame
	for _, n := range nodes {
		all = append(all, api.Frame{Kind: api.Ask, Node: n, Id: id, Ops: l})
	}
	return all
}

// commitsTo is the Commits of a transaction to these nodes.
func commitsTo(id int, l []api.Op, deps []int, nodes ...int) []api.Frame {
	var all []api.Frame
	for _, n := range nodes {
		all = append(all, api.Frame{Kind: api.Commit, Node: n, Id: id, Ops: l, Deps: deps})
	}
	return all
}

// sameFrames is whether frames are the same, whether lists without elements are nil or not.
func sameFrames(a, b []api.Frame) bool {
	return slices.EqualFunc(a, b, func(f, g api.Frame) bool {
		return f.Kind == g.Kind && f.Node == g.Node && f.Id == g.Id &&
			slices.Equal(f.Ops, g.Ops) && slices.Equal(f.Deps, g.Deps) &&
			slices.Equal(f.At, g.At) && slices.Equal(f.Values, g.Values)
	})
}

// sameCase is whether cases are the same, whether lists without elements are nil or not.
func sameCase(a, b api.Case) bool {
	return a.Begun == b.Begun && a.Fixed == b.Fixed && slices.Equal(a.Ops, b.Ops) && slices.Equal(a.Deps, b.Deps) &&
		a.Told == b.Told && a.Known == b.Known && a.Has == b.Has && a.Values == b.Values
}

// nodes is a set of nodes.
func nodes(l ...int) [api.Nodes]bool {
	var set [api.Nodes]bool
	for _, n := range l {
		set[n] = true
	}
	return set
}

// has is a set of operations, by their numbers.
func has(l ...int) [api.MaxOps]bool {
	var set [api.MaxOps]bool
	for _, at := range l {
		set[at] = true
	}
	return set
}

// both is operations of both shards: numbers 0 and 2 of shard 0, 1 and 3 of shard 1.
func both() []api.Op { return ops(write(2, 7), read(1), add(4, 1), write(3, -api.MaxValue)) }

// allButSelf is all transactions but one.
func allButSelf(id int) []int {
	var l []int
	for n := range api.MaxTxns {
		if n != id {
			l = append(l, n)
		}
	}
	return l
}

// asking is a case that is not fixed, of which these told.
func asking(l []api.Op, deps []int, by ...int) api.Case {
	return api.Case{Begun: true, Ops: l, Deps: deps, Told: nodes(by...)}
}

// fixed is a case that is.
func fixed(l []api.Op, deps []int, k [api.Nodes]bool, h [api.MaxOps]bool, values ...int) api.Case {
	c := api.Case{Begun: true, Fixed: true, Ops: l, Deps: deps, Told: nodes(0, 1, 3, 5), Known: k, Has: h}
	copy(c.Values[:], values)
	return c
}

// badCases is cases that are not good, and why.
func badCases() map[string]api.Case {
	return map[string]api.Case{
		"not begun, but fixed":         {Fixed: true},
		"not begun, with operations":   {Ops: ops(read(1))},
		"not begun, a zero operation":  {Ops: ops(api.Op{})},
		"not begun, with Deps":         {Deps: list(0)},
		"not begun, first node told":   {Told: nodes(0)},
		"not begun, last node told":    {Told: nodes(5)},
		"not begun, first node knows":  {Known: nodes(0)},
		"not begun, last node knows":   {Known: nodes(5)},
		"not begun, has the first":     {Has: has(0)},
		"not begun, has the last":      {Has: has(3)},
		"not begun, with a value":      {Values: [api.MaxOps]int{0: 1}},
		"not begun, with a last value": {Values: [api.MaxOps]int{3: -1}},
		"not begun, else good":         {Fixed: true, Ops: both(), Deps: list(1), Told: nodes(0, 1, 3, 4)},
		"no operations":                asking(nil, nil),
		"an empty list of operations":  asking([]api.Op{}, list(1)),
		"five operations":              asking(ops(read(0), read(1), read(2), read(3), read(4)), nil),
		"a key twice":                  asking(ops(read(1), write(1, 1)), nil),
		"an operation of key 8":        asking(ops(read(8)), nil),
		"an operation of key -1":       asking(ops(read(-1)), nil),
		"an operation of no kind":      asking(ops(api.Op{Kind: 4, Key: 1}), nil),
		"a Read with a number":         asking(ops(api.Op{Kind: api.Read, Key: 1, N: 1}), nil),
		"a number beyond the values":   asking(ops(add(1, api.MaxValue+1)), nil),
		"Deps fall":                    asking(both(), list(2, 1)),
		"Deps have one twice":          asking(both(), list(2, 2)),
		"Deps have 32":                 asking(both(), list(32)),
		"Deps have -1":                 asking(both(), list(-1)),
		"Deps have the least number":   asking(both(), list(math.MinInt)),
		"Deps have the greatest":       asking(both(), list(1, math.MaxInt)),
		"fixed, without operations":    fixed(nil, list(1), nodes(), has()),
		"fixed, Deps fall":             fixed(both(), list(2, 1), nodes(), has(0, 1, 2, 3)),
	}
}

// P6.1
func TestGood(t *testing.T) {
	for why, c := range map[string]api.Case{
		"zero":                         {},
		"zero, with empty lists":       {Ops: []api.Op{}, Deps: []int{}},
		"one operation":                asking(ops(read(7)), nil),
		"four, with an empty list":     asking(both(), []int{}),
		"behind all":                   asking(both(), allButSelf(-1)),
		"greatest numbers":             asking(ops(write(0, api.MaxValue), add(1, -api.MaxValue)), list(0, 31)),
		"fixed, though none told":      {Begun: true, Fixed: true, Ops: ops(read(0))},
		"told by all, not fixed":       asking(both(), nil, 0, 1, 2, 3, 4, 5),
		"known, not fixed":             {Begun: true, Ops: ops(read(0)), Known: nodes(0, 5)},
		"has what there is not":        {Begun: true, Ops: ops(read(0)), Has: has(0, 1, 2, 3)},
		"values beyond the bounds":     {Begun: true, Ops: ops(read(0)), Values: [api.MaxOps]int{math.MinInt, math.MaxInt, 1, 1}},
		"told by nodes that are not":   asking(ops(read(0)), nil, 3, 4, 5),
		"fixed, known, and has it all": fixed(both(), list(1), nodes(0, 1, 2, 3, 4, 5), has(0, 1, 2, 3), 1, 2, 3, 4),
	} {
		if !Good(c) {
			t.Errorf("%s: not good", why)
		}
	}
	for why, c := range badCases() {
		if Good(c) {
			t.Errorf("%s: good", why)
		}
	}
}

// P6.2
func TestBegin(t *testing.T) {
	for _, c := range []struct {
		id   int
		ops  []api.Op
		want []int
	}{
		{0, ops(write(2, 7)), list(0, 1, 2)},
		{31, ops(read(7)), list(3, 4, 5)},
		{5, both(), list(0, 1, 2, 3, 4, 5)},
		{7, ops(read(0), read(2), read(4), read(6)), list(0, 1, 2)},
		{7, ops(add(1, 1), add(3, -1), add(5, 0), write(7, 0)), list(3, 4, 5)},
		{12, ops(read(1), read(0)), list(0, 1, 2, 3, 4, 5)},
	} {
		got, l, e := Begin(api.Txn{Id: c.id, Ops: c.ops})
		if e != api.OK || !sameFrames(l, asksTo(c.id, c.ops, c.want...)) {
			t.Errorf("Begin of %d, %v: %+v, %d", c.id, c.ops, l, e)
		}
		if !Good(got) || !sameCase(got, api.Case{Begun: true, Ops: c.ops}) {
			t.Errorf("Begin of %d, %v: %+v", c.id, c.ops, got)
		}
	}
}

// P6.2: the errors, the first that applies, and nothing with them.
func TestBeginRefuses(t *testing.T) {
	for _, c := range []struct {
		txn  api.Txn
		want api.Errno
	}{
		{api.Txn{Id: -1, Ops: both()}, api.ErrRange},
		{api.Txn{Id: 32, Ops: both()}, api.ErrRange},
		{api.Txn{Id: math.MinInt, Ops: both()}, api.ErrRange},
		{api.Txn{Id: math.MaxInt, Ops: both()}, api.ErrRange},
		{api.Txn{Id: 256, Ops: both()}, api.ErrRange},
		{api.Txn{Id: -1}, api.ErrRange},
		{api.Txn{Id: 32, Ops: ops(read(8))}, api.ErrRange},
		{api.Txn{}, api.ErrForm},
		{api.Txn{Id: 31, Ops: []api.Op{}}, api.ErrForm},
		{api.Txn{Ops: ops(read(8))}, api.ErrForm},
		{api.Txn{Ops: ops(read(0), read(0))}, api.ErrForm},
		{api.Txn{Ops: ops(read(0), read(1), read(2), read(3), read(4))}, api.ErrForm},
		{api.Txn{Ops: ops(api.Op{Key: 1})}, api.ErrForm},
		{api.Txn{Ops: make([]api.Op, 1000)}, api.ErrForm},
	} {
		got, l, e := Begin(c.txn)
		if e != c.want || len(l) != 0 || !reflect.ValueOf(got).IsZero() {
			t.Errorf("Begin of %+v: %+v, %v, %d, want %d", c.txn, got, l, e, c.want)
		}
	}
}

// P6.3: not fixed: who is touched and has not told is asked.
func TestAgainAsks(t *testing.T) {
	even, odd := ops(read(0), write(6, 1)), ops(add(5, 2))
	for _, c := range []struct {
		why  string
		c    api.Case
		want []api.Frame
	}{
		{"none told", asking(both(), nil), asksTo(5, both(), 0, 1, 2, 3, 4, 5)},
		{"some told", asking(both(), list(1, 9), 0, 4), asksTo(5, both(), 1, 2, 3, 5)},
		{"most told, not fixed", asking(both(), list(1), 0, 1, 3, 4), asksTo(5, both(), 2, 5)},
		{"all told, not fixed", asking(both(), nil, 0, 1, 2, 3, 4, 5), nil},
		{"shard 0", asking(even, nil), asksTo(5, even, 0, 1, 2)},
		{"shard 0, one told", asking(even, list(31), 1), asksTo(5, even, 0, 2)},
		{"shard 0, told by the others", asking(even, nil, 3, 4, 5), asksTo(5, even, 0, 1, 2)},
		{"shard 1", asking(odd, nil), asksTo(5, odd, 3, 4, 5)},
		{"shard 1, two told", asking(odd, nil, 3, 5), asksTo(5, odd, 4)},
		{"behind all others", asking(odd, allButSelf(5), 3), asksTo(5, odd, 4, 5)},
		{"known and has, not fixed", api.Case{Begun: true, Ops: odd, Known: nodes(3, 4), Has: has(0, 1, 2, 3)}, asksTo(5, odd, 3, 4, 5)},
	} {
		if l := Again(c.c, 5); !sameFrames(l, c.want) {
			t.Errorf("%s: %+v, want %+v", c.why, l, c.want)
		}
	}
}

// P6.3: fixed: all nodes hear of it till they know, those of a shard till all its values are told.
func TestAgainCommits(t *testing.T) {
	even, odd := ops(read(0), write(6, 1)), ops(add(5, 2))
	all := nodes(0, 1, 2, 3, 4, 5)
	deps := list(0, 30)
	for _, c := range []struct {
		why  string
		c    api.Case
		want []api.Frame
	}{
		{"none knows", fixed(both(), deps, nodes(), has()), commitsTo(5, both(), deps, 0, 1, 2, 3, 4, 5)},
		{"behind nothing", fixed(both(), nil, nodes(), has()), commitsTo(5, both(), nil, 0, 1, 2, 3, 4, 5)},
		{"all know", fixed(both(), deps, all, has()), commitsTo(5, both(), deps, 0, 1, 2, 3, 4, 5)},
		{"all know, has those of shard 0", fixed(both(), deps, all, has(0, 2)), commitsTo(5, both(), deps, 3, 4, 5)},
		{"all know, has those of shard 1", fixed(both(), deps, all, has(1, 3)), commitsTo(5, both(), deps, 0, 1, 2)},
		{"all know, lacks one of each", fixed(both(), deps, all, has(0, 1)), commitsTo(5, both(), deps, 0, 1, 2, 3, 4, 5)},
		{"all know, lacks the last", fixed(both(), deps, all, has(0, 1, 2)), commitsTo(5, both(), deps, 3, 4, 5)},
		{"all know, lacks the first", fixed(both(), deps, all, has(1, 2, 3)), commitsTo(5, both(), deps, 0, 1, 2)},
		{"all know, has all", fixed(both(), deps, all, has(0, 1, 2, 3)), nil},
		{"has all, none knows", fixed(both(), deps, nodes(), has(0, 1, 2, 3)), commitsTo(5, both(), deps, 0, 1, 2, 3, 4, 5)},
		{"has all, some know", fixed(both(), deps, nodes(0, 2, 5), has(0, 1, 2, 3)), commitsTo(5, both(), deps, 1, 3, 4)},
		{"shard 0: the others hear of it", fixed(even, deps, nodes(), has()), commitsTo(5, even, deps, 0, 1, 2, 3, 4, 5)},
		{"shard 0: the others know", fixed(even, deps, nodes(3, 5), has()), commitsTo(5, even, deps, 0, 1, 2, 4)},
		{"shard 0: lacks one", fixed(even, deps, all, has(0, 2, 3)), commitsTo(5, even, deps, 0, 1, 2)},
		{"shard 0: has both", fixed(even, deps, all, has(0, 1)), nil},
		{"shard 1: the others hear of it", fixed(odd, deps, nodes(3, 4, 5), has(0)), commitsTo(5, odd, deps, 0, 1, 2)},
		{"shard 1: lacks it", fixed(odd, deps, nodes(0, 1, 2), has(1, 2, 3)), commitsTo(5, odd, deps, 3, 4, 5)},
		{"fixed, though none told", api.Case{Begun: true, Fixed: true, Ops: odd}, commitsTo(5, odd, nil, 0, 1, 2, 3, 4, 5)},
	} {
		if l := Again(c.c, 5); !sameFrames(l, c.want) {
			t.Errorf("%s: %+v, want %+v", c.why, l, c.want)
		}
	}
}

// P6.3: where it says nothing.
func TestAgainSaysNothing(t *testing.T) {
	for why, c := range badCases() {
		if l := Again(c, 5); len(l) != 0 {
			t.Errorf("%s: %+v", why, l)
		}
	}
	for _, c := range []api.Case{{}, {Ops: []api.Op{}, Deps: []int{}}} {
		if l := Again(c, 5); len(l) != 0 {
			t.Errorf("not begun: %+v", l)
		}
	}
	for _, c := range []api.Case{asking(both(), list(1, 5, 9)), fixed(both(), list(1, 5, 9), nodes(), has())} {
		for _, id := range list(-1, 32, math.MinInt, math.MaxInt, 256, 1, 5, 9) {
			if l := Again(c, id); len(l) != 0 {
				t.Errorf("of %d: %+v", id, l)
			}
		}
		for _, id := range list(0, 2, 31) {
			if l := Again(c, id); len(l) != api.Nodes || l[5].Id != id {
				t.Errorf("of %d: %+v", id, l)
			}
		}
	}
}

// P6.4: the errors, the first that applies; the case is as it was.
func TestTakeRefuses(t *testing.T) {
	c := asking(both(), list(1, 9), 0)
	with := func(f api.Frame, id int) api.Frame { f.Id = id; return f }
	for _, x := range []struct {
		why  string
		c    api.Case
		id   int
		f    api.Frame
		want api.Errno
	}{
		{"not begun", api.Case{}, 5, told(1), api.ErrRange},
		{"not begun, empty lists", api.Case{Ops: []api.Op{}, Deps: []int{}}, 5, known(1), api.ErrRange},
		{"not begun, ahead of the frame's kind", api.Case{}, 5, api.Frame{Id: 5}, api.ErrRange},
		{"another's frame", c, 4, told(1), api.ErrRange},
		{"another's frame, fixed", fixed(both(), nil, nodes(), has()), 6, done(0, list(0), list(0)), api.ErrRange},
		{"another's frame, ahead of its kind", c, 4, api.Frame{Kind: 9, Id: 5}, api.ErrRange},
		{"another's frame, ahead of its form", c, 4, api.Frame{Kind: api.Ask, Id: 5}, api.ErrRange},
		{"another's Ask", c, 4, asksTo(5, both(), 0)[0], api.ErrRange},
		{"behind itself", c, 9, with(told(1), 9), api.ErrRange},
		{"behind itself, fixed", fixed(both(), list(5), nodes(), has()), 5, known(0), api.ErrRange},
		{"behind itself, ahead of the frame's kind", c, 1, api.Frame{Id: 1}, api.ErrRange},
		{"behind itself, ahead of an Ask", c, 1, asksTo(1, both(), 0)[0], api.ErrRange},

		{"a kind of none", c, 5, api.Frame{Id: 5}, api.ErrKind},
		{"kind 6", c, 5, api.Frame{Kind: 6, Id: 5, Node: 9}, api.ErrKind},
		{"kind -1, no transaction", c, 32, api.Frame{Kind: -1, Id: 32}, api.ErrKind},
		{"no transaction", c, 32, with(told(1), 32), api.ErrRange},
		{"transaction -1", c, -1, with(known(1), -1), api.ErrRange},
		{"least transaction", c, math.MinInt, with(known(1), math.MinInt), api.ErrRange},
		{"greatest transaction", c, math.MaxInt, with(told(1), math.MaxInt), api.ErrRange},
		{"no transaction, ahead of an Ask", c, 32, asksTo(32, both(), 0)[0], api.ErrRange},
		{"node -1", c, 5, told(-1), api.ErrRange},
		{"node 6", c, 5, known(6), api.ErrRange},
		{"node 6 has done", fixed(both(), nil, nodes(), has()), 5, done(6, list(0), list(0)), api.ErrRange},
		{"least node", c, 5, told(math.MinInt), api.ErrRange},
		{"greatest node", c, 5, known(math.MaxInt), api.ErrRange},
		{"told that it stands ahead of itself", c, 5, told(1, 4, 5), api.ErrForm},
		{"told Deps that fall", c, 5, told(1, 4, 3), api.ErrForm},
		{"told Deps of none", c, 5, told(1, 32), api.ErrForm},
		{"told with operations", c, 5, api.Frame{Kind: api.Told, Id: 5, Ops: both()}, api.ErrForm},
		{"known with Deps", c, 5, api.Frame{Kind: api.Known, Id: 5, Deps: list(1)}, api.ErrForm},
		{"known with At", c, 5, api.Frame{Kind: api.Known, Id: 5, At: list(0), Values: list(0)}, api.ErrForm},
		{"done with a value too few", c, 5, done(0, list(0, 2), list(0)), api.ErrForm},
		{"done with a value too many", c, 5, done(0, list(0), list(0, 0)), api.ErrForm},
		{"done at -1", c, 5, done(0, list(-1), list(0)), api.ErrForm},
		{"done at 4", c, 5, done(0, list(4), list(0)), api.ErrForm},
		{"done at falling numbers", c, 5, done(0, list(2, 0), list(0, 0)), api.ErrForm},
		{"done with what is no value", c, 5, done(0, list(0), list(api.MaxValue+1)), api.ErrForm},
		{"form ahead of kind", c, 5, api.Frame{Kind: api.Ask, Id: 5}, api.ErrForm},
		{"form ahead of kind, of Commit", c, 5, commitsTo(5, both(), list(5), 0)[0], api.ErrForm},

		{"Ask", c, 5, asksTo(5, both(), 0)[0], api.ErrKind},
		{"Commit", c, 5, commitsTo(5, both(), list(1), 0)[0], api.ErrKind},
		{"Ask, fixed", fixed(both(), nil, nodes(), has()), 5, asksTo(5, both(), 5)[0], api.ErrKind},
		{"Commit, fixed", fixed(both(), nil, nodes(), has()), 5, commitsTo(5, both(), nil, 5)[0], api.ErrKind},
	} {
		refused(t, x.why, x.c, x.id, x.f, x.want)
	}
	for why, c := range badCases() {
		refused(t, why, c, 5, told(1), api.ErrRange)
		refused(t, why+", ahead of the frame's kind", c, 5, api.Frame{Id: 5}, api.ErrRange)
	}
}

// refused is held to if a frame is not taken, for that reason, and the case is as it was.
func refused(t *testing.T, why string, c api.Case, id int, f api.Frame, want api.Errno) {
	t.Helper()
	got, l, e := Take(c, id, f)
	if e != want || len(l) != 0 {
		t.Errorf("%s: %v, %d, want %d", why, l, e, want)
	}
	if !reflect.DeepEqual(got, c) {
		t.Errorf("%s: the case is not as it was: %+v", why, got)
	}
}

// step is a frame that comes to who has transaction 5, the case that it leads to, and what is sent.
type step struct {
	f    api.Frame
	want api.Case
	sent []api.Frame
}

// run takes frames, one by one, from a case on.
func run(t *testing.T, why string, c api.Case, steps ...step) {
	t.Helper()
	for i, x := range steps {
		next, l, e := Take(c, 5, x.f)
		if e != api.OK || !sameFrames(l, x.sent) {
			t.Errorf("%s, %d: sent %+v, %d, want %+v", why, i, l, e, x.sent)
		}
		if !Good(next) || !sameCase(next, x.want) {
			t.Errorf("%s, %d: %+v, want %+v", why, i, next, x.want)
		}
		c = next
	}
}

// P6.4: of both shards most must have told.
func TestToldOfBothShards(t *testing.T) {
	fixedNow := asking(both(), list(1, 2, 7, 31), 0, 2, 4, 5)
	fixedNow.Fixed = true
	run(t, "both", asking(both(), nil),
		step{told(2, 7), asking(both(), list(7), 2), nil},
		step{told(2, 8), asking(both(), list(7), 2), nil},
		step{told(4, 1, 7), asking(both(), list(1, 7), 2, 4), nil},
		step{told(4), asking(both(), list(1, 7), 2, 4), nil},
		step{told(0), asking(both(), list(1, 7), 0, 2, 4), nil},
		step{told(5, 2, 31), fixedNow, commitsTo(5, both(), list(1, 2, 7, 31), 0, 1, 2, 3, 4, 5)},
		step{told(5, 3), fixedNow, nil},
		step{told(1, 3), fixedNow, nil},
		step{told(3), fixedNow, nil},
	)
	third := asking(both(), list(1), 0, 1, 2, 3, 4)
	third.Fixed = true
	run(t, "a third copy, ahead of the other shard's second", asking(both(), nil, 0, 1, 3),
		step{told(2, 1), asking(both(), list(1), 0, 1, 2, 3), nil},
		step{told(4), third, commitsTo(5, both(), list(1), 0, 1, 2, 3, 4, 5)},
	)
	run(t, "all of one shard do not do", asking(both(), nil),
		step{told(3), asking(both(), nil, 3), nil},
		step{told(4), asking(both(), nil, 3, 4), nil},
		step{told(5), asking(both(), nil, 3, 4, 5), nil},
		step{told(1), asking(both(), nil, 1, 3, 4, 5), nil},
	)
}

// P6.4: the other shard is not asked, and what it tells is nothing.
func TestToldOfOneShard(t *testing.T) {
	even, odd := ops(write(2, 1)), ops(add(5, 1), read(7))
	evenFixed := asking(even, list(0, 6), 0, 1)
	evenFixed.Fixed = true
	run(t, "shard 0", asking(even, nil),
		step{told(3, 1), asking(even, nil), nil},
		step{told(5, 1), asking(even, nil), nil},
		step{told(1, 0, 6), asking(even, list(0, 6), 1), nil},
		step{told(4, 1), asking(even, list(0, 6), 1), nil},
		step{told(0, 6), evenFixed, commitsTo(5, even, list(0, 6), 0, 1, 2, 3, 4, 5)},
		step{told(2, 1), evenFixed, nil},
		step{told(3, 1), evenFixed, nil},
	)
	oddFixed := asking(odd, nil, 3, 5)
	oddFixed.Fixed = true
	run(t, "shard 1", asking(odd, nil),
		step{told(0, 1), asking(odd, nil), nil},
		step{told(2, 1), asking(odd, nil), nil},
		step{told(5), asking(odd, nil, 5), nil},
		step{told(1, 1), asking(odd, nil, 5), nil},
		step{told(3), oddFixed, commitsTo(5, odd, nil, 0, 1, 2, 3, 4, 5)},
		step{told(4, 1), oddFixed, nil},
	)
	wild := asking(odd, list(3), 0, 1, 2, 4)
	run(t, "the other shard's do not count", asking(odd, nil, 0, 1, 2), step{told(4, 3), wild, nil})
}

// P6.4: all others may stand ahead, and numbers stay sorted however they come.
func TestToldDeps(t *testing.T) {
	odd := ops(read(1))
	c := asking(odd, allButSelf(5), 3, 5)
	c.Fixed = true
	run(t, "all", asking(odd, nil),
		step{told(5, 31), asking(odd, list(31), 5), nil},
		step{told(3, allButSelf(5)...), c, commitsTo(5, odd, allButSelf(5), 0, 1, 2, 3, 4, 5)},
	)
}

// P6.4: at cases that no frames lead to: who told already can't fix it, most that told before can, and what is sent is Again.
func TestToldOfWildCases(t *testing.T) {
	c := asking(both(), list(2), 0, 1, 2, 3, 4)
	run(t, "told already", c, step{told(4, 1), c, nil})
	now := asking(both(), list(1, 2), 0, 1, 2, 3, 4, 5)
	now.Fixed = true
	run(t, "the last", c, step{told(5, 1), now, commitsTo(5, both(), list(1, 2), 0, 1, 2, 3, 4, 5)})

	c = asking(both(), nil, 0, 1, 3)
	c.Known, c.Has = nodes(0, 2, 4), has(0, 2)
	now = c
	now.Fixed, now.Told = true, nodes(0, 1, 3, 4)
	run(t, "known already", c, step{told(4), now, commitsTo(5, both(), nil, 1, 3, 4, 5)})
}

// P6.5
func TestKnown(t *testing.T) {
	c := asking(both(), list(1), 0, 1, 3)
	run(t, "not fixed", c, step{known(0), c, nil}, step{known(5), c, nil})
	for n := range api.Nodes {
		c = fixed(ops(read(1)), list(1), nodes(), has())
		now := c
		now.Known = nodes(n)
		run(t, "fixed", c, step{known(n), now, nil}, step{known(n), now, nil})
	}
	c = fixed(both(), nil, nodes(0, 4), has(1), 0, 3)
	now := c
	now.Known = nodes(0, 2, 4)
	run(t, "a third", c, step{known(2), now, nil}, step{known(0), now, nil})
}

// P6.6
func TestDone(t *testing.T) {
	c := asking(both(), list(1), 0, 1, 3)
	run(t, "not fixed", c, step{done(0, list(0), list(9)), c, nil}, step{done(3, list(1, 3), list(9, 9)), c, nil})

	want := func(h [api.MaxOps]bool, values ...int) api.Case {
		return fixed(both(), list(1), nodes(2), h, values...)
	}
	run(t, "both", want(has()),
		step{done(0, nil, nil), want(has()), nil},
		step{done(4, list(0, 2), list(9, 9)), want(has()), nil},
		step{done(2, list(1, 3), list(9, 9)), want(has()), nil},
		step{done(1, list(2), list(-4)), want(has(2), 0, 0, -4), nil},
		step{done(2, list(0, 1, 2, 3), list(api.MaxValue, 9, 8, 9)), want(has(0, 2), api.MaxValue, 0, -4), nil},
		step{done(5, list(0, 3), list(9, -api.MaxValue)), want(has(0, 2, 3), api.MaxValue, 0, -4, -api.MaxValue), nil},
		step{done(0, list(0, 2), list(0, 0)), want(has(0, 2, 3), api.MaxValue, 0, -4, -api.MaxValue), nil},
		step{done(3, list(1), list(0)), want(has(0, 1, 2, 3), api.MaxValue, 0, -4, -api.MaxValue), nil},
		step{done(4, list(1, 3), list(6, 6)), want(has(0, 1, 2, 3), api.MaxValue, 0, -4, -api.MaxValue), nil},
	)
	one := func(h [api.MaxOps]bool, values ...int) api.Case {
		return fixed(ops(add(7, 1)), nil, nodes(), h, values...)
	}
	run(t, "numbers beyond the operations", one(has()),
		step{done(3, list(1, 2, 3), list(9, 9, 9)), one(has()), nil},
		step{done(0, list(0, 1), list(9, 9)), one(has()), nil},
		step{done(3, list(0, 1), list(7, 9)), one(has(0), 7), nil},
	)
	run(t, "a value that stood there", one(has(), 3), step{done(5, list(0), list(8)), one(has(0), 8), nil})
}

// P6.7
func TestResult(t *testing.T) {
	beyond := fixed(ops(read(0)), nil, nodes(), has(0, 1, 2, 3), math.MaxInt, 2, 3, 4)
	for _, x := range []struct {
		why  string
		c    api.Case
		want []int
		ok   bool
	}{
		{"not begun", api.Case{}, nil, false},
		{"not begun, empty lists", api.Case{Ops: []api.Op{}, Deps: []int{}}, nil, false},
		{"has none", fixed(both(), nil, nodes(), has(), 1, 2, 3, 4), nil, false},
		{"lacks the first", fixed(both(), nil, nodes(), has(1, 2, 3), 1, 2, 3, 4), nil, false},
		{"lacks the last", fixed(both(), nil, nodes(), has(0, 1, 2), 1, 2, 3, 4), nil, false},
		{"has all", fixed(both(), list(3), nodes(), has(0, 1, 2, 3), 1, -2, 0, 4), list(1, -2, 0, 4), true},
		{"has the only one", fixed(ops(read(0)), nil, nodes(), has(0), 5, 6, 7, 8), list(5), true},
		{"lacks the only one", fixed(ops(read(0)), nil, nodes(), has(1, 2, 3), 5, 6, 7, 8), nil, false},
		{"has more than there are", beyond, list(math.MaxInt), true},
		{"has two of three", fixed(ops(read(0), read(1), read(2)), nil, nodes(), has(0, 1, 3), 5, 6, 7, 8), nil, false},
		{"not fixed, but has all", api.Case{Begun: true, Ops: ops(read(0)), Has: has(0)}, list(0), true},
	} {
		if v, ok := Result(x.c); ok != x.ok || !slices.Equal(v, x.want) {
			t.Errorf("%s: %v, %v, want %v, %v", x.why, v, ok, x.want, x.ok)
		}
	}
	for why, c := range badCases() {
		c.Has = has(0, 1, 2, 3)
		if v, ok := Result(c); ok || len(v) != 0 {
			t.Errorf("%s: %v, %v", why, v, ok)
		}
	}
}

// open is a list with its spare room laid open, copied.
func open[T any](l []T) []T { return slices.Clone(l[:cap(l)]) }

// fill writes into a list, and behind it.
func fill[T any](l []T, v T) {
	l = l[:cap(l)]
	for i := range l {
		l[i] = v
	}
}

// roomy is a list like another, with spare room, filled.
func roomy[T any](l []T, v T) []T { return append(slices.Clone(l), v, v, v)[:len(l)] }

// What holds everywhere: lists that are handed in stay as they are, with their spare room, also when what was answered is written to.
func TestListsAreLeftAlone(t *testing.T) {
	for _, f := range frames(told(4, 0, 3, 31), told(0), known(1), done(1, list(0, 2), list(4, 4)), done(9, nil, nil)) {
		for _, c := range []api.Case{asking(both(), list(2, 9), 0, 1, 3), asking(both(), list(2), 0), fixed(both(), list(2), nodes(0), has(1))} {
			c.Ops, c.Deps = roomy(c.Ops, read(7)), roomy(c.Deps, 7)
			f := f
			f.Deps, f.At, f.Values = roomy(f.Deps, 7), roomy(f.At, 7), roomy(f.Values, 7)
			keepOps, keepDeps := open(c.Ops), open(c.Deps)
			keepFrame := [][]int{open(f.Deps), open(f.At), open(f.Values)}
			next, sent, _ := Take(c, 5, f)
			sent = append(sent, Again(c, 5)...)
			sent = append(sent, Again(next, 5)...)
			begun, asked, _ := Begin(api.Txn{Id: 5, Ops: c.Ops})
			sent = append(sent, asked...)
			Good(c)
			Result(c)
			for _, a := range sent {
				fill(a.Ops, api.Op{})
				fill(a.Deps, -5)
			}
			fill(next.Ops, api.Op{})
			fill(next.Deps, -5)
			fill(begun.Ops, api.Op{})
			if !slices.Equal(open(c.Ops), keepOps) || !slices.Equal(open(c.Deps), keepDeps) {
				t.Errorf("%+v: the case's lists are changed", f)
			}
			if !slices.Equal(open(f.Deps), keepFrame[0]) || !slices.Equal(open(f.At), keepFrame[1]) || !slices.Equal(open(f.Values), keepFrame[2]) {
				t.Errorf("%+v: the frame's lists are changed", f)
			}
		}
	}
}

// What holds everywhere: no two lists of one answer share memory.
func TestAnswersShareNothing(t *testing.T) {
	alone := func(why string, c api.Case, l []api.Frame) {
		t.Helper()
		for i := range l {
			fill(l[i].Ops, api.Op{N: i + 1})
			fill(l[i].Deps, -i-1)
		}
		fill(c.Ops, api.Op{N: 100})
		fill(c.Deps, -100)
		for i := range l {
			if l[i].Ops[0].N != i+1 || len(l[i].Deps) > 0 && l[i].Deps[0] != -i-1 {
				t.Errorf("%s: frame %d shares memory: %+v", why, i, l[i])
			}
		}
	}
	begun, l, _ := Begin(api.Txn{Id: 5, Ops: both()})
	alone("Begin", begun, l)
	c, l, _ := Take(asking(both(), list(1, 9), 0, 1, 3), 5, told(4, 2))
	if len(l) != api.Nodes {
		t.Fatalf("sent %+v", l)
	}
	alone("Take", c, l)
	c = fixed(both(), list(1, 9), nodes(), has())
	alone("Again", c, Again(c, 5))

	c = fixed(both(), nil, nodes(), has(0, 1, 2, 3), 1, 2, 3, 4)
	v, _ := Result(c)
	fill(v, -5)
	if w, _ := Result(c); !slices.Equal(w, list(1, 2, 3, 4)) {
		t.Errorf("Result shares memory: %v", w)
	}
}

// someOps is operations of up to four keys, at times of one shard alone.
func someOps(r *rand.Rand) []api.Op {
	var l []api.Op
	shards := r.Intn(3)
	for _, key := range r.Perm(api.Keys)[:1+r.Intn(api.MaxOps)] {
		if shards < 2 {
			key = (2*key + shards) % api.Keys
		}
		if slices.ContainsFunc(l, func(o api.Op) bool { return o.Key == key }) {
			continue
		}
		o := api.Op{Kind: 1 + r.Intn(3), Key: key}
		if o.Kind != api.Read {
			o.N = r.Intn(200) - 100
		}
		l = append(l, o)
	}
	return l
}

// someDeps is transactions that rise, without one.
func someDeps(r *rand.Rand, id int) []int {
	var l []int
	for n := range api.MaxTxns {
		if n != id && r.Intn(8) == 0 {
			l = append(l, n)
		}
	}
	return l
}

// someCase is a good case that is begun, of whatever was told.
func someCase(r *rand.Rand, id int) api.Case {
	c := api.Case{Begun: true, Fixed: r.Intn(2) == 0, Ops: someOps(r), Deps: someDeps(r, id)}
	for n := range api.Nodes {
		c.Told[n], c.Known[n] = r.Intn(2) == 0, r.Intn(2) == 0
	}
	for at := range api.MaxOps {
		c.Has[at], c.Values[at] = r.Intn(2) == 0, r.Intn(9)
	}
	return c
}

// someAnswer is an answer by a node, of any of the three kinds.
func someAnswer(r *rand.Rand, id int) api.Frame {
	f := api.Frame{Kind: api.Known, Node: r.Intn(api.Nodes), Id: id}
	switch r.Intn(5) {
	case 0, 1:
		f.Kind, f.Deps = api.Told, someDeps(r, id)
	case 2, 3:
		f.Kind = api.Done
		for at := range api.MaxOps {
			if r.Intn(2) == 0 {
				f.At, f.Values = append(f.At, at), append(f.Values, 10+r.Intn(9))
			}
		}
	}
	return f
}

// ofShard is the numbers of operations of a node's shard.
func ofShard(c api.Case, n int) []int {
	var l []int
	for at, o := range c.Ops {
		if o.Key%2 == n/api.Copies {
			l = append(l, at)
		}
	}
	return l
}

// wantedAgain is what a case sends, by the words of the promise.
func wantedAgain(c api.Case, id int) []api.Frame {
	var l []api.Frame
	for n := range api.Nodes {
		own := ofShard(c, n)
		missing := slices.ContainsFunc(own, func(at int) bool { return !c.Has[at] })
		if !c.Fixed && len(own) > 0 && !c.Told[n] {
			l = append(l, asksTo(id, c.Ops, n)...)
		}
		if c.Fixed && (!c.Known[n] || missing) {
			l = append(l, commitsTo(id, c.Ops, c.Deps, n)...)
		}
	}
	return l
}

// wantedTold is a case that is not fixed behind what a node of a shard that is touched first told, by the words of the promise.
func wantedTold(c api.Case, f api.Frame) api.Case {
	c.Told[f.Node] = true
	c.Deps = slices.Concat(c.Deps, f.Deps)
	slices.Sort(c.Deps)
	c.Deps = slices.Compact(c.Deps)
	c.Fixed = true
	for _, copies := range [][]int{{0, 1, 2}, {3, 4, 5}} {
		count := 0
		for _, n := range copies {
			if c.Told[n] {
				count++
			}
		}
		if len(ofShard(c, copies[0])) > 0 && count < 2 {
			c.Fixed = false
		}
	}
	return c
}

// wanted is a case behind an answer, and what is sent, by the words of the promises.
func wanted(c api.Case, f api.Frame) (api.Case, []api.Frame) {
	own := ofShard(c, f.Node)
	if f.Kind == api.Told {
		if c.Fixed || c.Told[f.Node] || len(own) == 0 {
			return c, nil
		}
		if c = wantedTold(c, f); c.Fixed {
			return c, wantedAgain(c, f.Id)
		}
		return c, nil
	}
	if c.Fixed && f.Kind == api.Known {
		c.Known[f.Node] = true
	}
	for i, at := range f.At {
		if c.Fixed && slices.Contains(own, at) && !c.Has[at] {
			c.Has[at], c.Values[at] = true, f.Values[i]
		}
	}
	return c, nil
}

// P6.3 to P6.7: at whatever case, and on from it, each case is what the one ahead of it and the promises' words say.
func TestManyAnswers(t *testing.T) {
	r := rand.New(rand.NewSource(6))
	for round := range 3000 {
		id := r.Intn(api.MaxTxns)
		c := someCase(r, id)
		if round%2 == 0 {
			c, _, _ = Begin(api.Txn{Id: id, Ops: c.Ops})
		}
		for range 1 + r.Intn(12) {
			f := someAnswer(r, id)
			want, sent := wanted(c, f)
			next, l, e := Take(c, id, f)
			if e != api.OK || !Good(next) || !sameCase(next, want) || !sameFrames(l, sent) {
				t.Fatalf("%+v to %+v: %+v, %+v, %d", f, c, next, l, e)
			}
			if l := Again(next, id); !sameFrames(l, wantedAgain(next, id)) {
				t.Fatalf("Again of %+v: %+v", next, l)
			}
			all := !slices.Contains(next.Has[:len(next.Ops)], false)
			if v, ok := Result(next); ok != all || all && !slices.Equal(v, next.Values[:len(next.Ops)]) || !all && len(v) != 0 {
				t.Fatalf("Result of %+v: %v, %v", next, v, ok)
			}
			c = next
		}
	}
}

// What holds everywhere: whatever comes, every call ends, what is refused changes nothing, and what is taken leaves the case good.
func TestWildFrames(t *testing.T) {
	r := rand.New(rand.NewSource(66))
	some := func() int { return list(-1, 0, 1, 2, 3, 4, 5, 6, 31, 32, math.MinInt, math.MaxInt)[r.Intn(12)] }
	someList := func() []int {
		var l []int
		for range r.Intn(3) {
			l = append(l, some())
		}
		return l
	}
	for range 20000 {
		id := some()
		c := someCase(r, 5)
		if r.Intn(4) == 0 {
			c = api.Case{Begun: r.Intn(2) == 0, Fixed: r.Intn(2) == 0, Deps: someList()}
		}
		f := api.Frame{Kind: some(), Node: some(), Id: id, Deps: someList(), At: someList(), Values: someList()}
		next, l, e := Take(c, id, f)
		if e != api.OK && (!reflect.DeepEqual(next, c) || len(l) != 0) {
			t.Fatalf("%+v to %+v: %+v, %v, %d", f, c, next, l, e)
		}
		if e == api.OK && (!Good(c) || !Good(next) || wire.Good(f) != api.OK) {
			t.Fatalf("%+v to %+v: taken, %+v", f, c, next)
		}
		for _, a := range append(l, Again(c, id)...) {
			if e := wire.Good(a); e != api.OK || a.Id != id {
				t.Fatalf("%+v, %d: sent %+v, %d", c, id, a, e)
			}
		}
		Result(c)
	}
}

// delivery is nodes, and who has transactions, with what is lost on the way between them.
type delivery struct {
	t     *testing.T
	r     *rand.Rand
	nodes [api.Nodes]api.Node
	cases []api.Case
}

// send brings frames to nodes, and their answers back, but for those that are lost; what comes of these is sent on.
func (d *delivery) send(l []api.Frame) {
	for _, f := range l {
		if d.r.Intn(3) == 0 {
			continue
		}
		s, answers, e := node.Take(d.nodes[f.Node], f.Node, f)
		if e != api.OK {
			d.t.Fatalf("%+v: %d", f, e)
		}
		d.nodes[f.Node] = s
		for _, a := range answers {
			if d.r.Intn(3) == 0 {
				continue
			}
			c, more, e := Take(d.cases[a.Id], a.Id, a)
			if e != api.OK {
				d.t.Fatalf("%+v: %d", a, e)
			}
			d.cases[a.Id] = c
			d.send(more)
		}
	}
}

// finished is whether nothing is lacking any more.
func (d *delivery) finished() bool {
	for id, c := range d.cases {
		if len(Again(c, id)) > 0 {
			return false
		}
	}
	return true
}

// P6.2 to P6.7: whatever is lost, asking again and again brings what each told, and all that is told is as if it was done one after the other.
func TestWithNodes(t *testing.T) {
	r := rand.New(rand.NewSource(666))
	for range 40 {
		d := &delivery{t: t, r: r, cases: make([]api.Case, 2+r.Intn(8))}
		for id := range d.cases {
			c, l, e := Begin(api.Txn{Id: id, Ops: someOps(r)})
			if e != api.OK {
				t.Fatalf("%d", e)
			}
			d.cases[id] = c
			d.send(l)
		}
		for rounds := 0; !d.finished(); rounds++ {
			if rounds > 10000 {
				t.Fatalf("no end: %+v", d.cases)
			}
			id := r.Intn(len(d.cases))
			d.send(Again(d.cases[id], id))
		}
		for id, c := range d.cases {
			v, ok := Result(c)
			if !ok || len(v) != len(c.Ops) {
				t.Fatalf("%d: %v, %v", id, v, ok)
			}
			for at, o := range c.Ops {
				s := d.nodes[o.Key%2*api.Copies+r.Intn(api.Copies)].Entries[id]
				i := slices.Index(s.At, at)
				if i < 0 || s.Values[i] != v[at] {
					t.Fatalf("%d told %v, but a copy has %v at %v", id, v, s.Values, s.At)
				}
			}
		}
		inOneOrder(t, d)
	}
}

// inOneOrder is held to if what was told comes of doing all one after the other, in the order of one node.
func inOneOrder(t *testing.T, d *delivery) {
	t.Helper()
	if len(d.nodes[0].Order) != len(d.cases) {
		t.Fatalf("done are %v of %d", d.nodes[0].Order, len(d.cases))
	}
	var values [api.Keys]int
	for _, id := range d.nodes[0].Order {
		v, _ := Result(d.cases[id])
		for at, o := range d.cases[id].Ops {
			switch o.Kind {
			case api.Write:
				values[o.Key] = o.N
			case api.Add:
				values[o.Key] += o.N
			}
			if v[at] != values[o.Key] {
				t.Fatalf("%d told %v, at %d %d was wanted", id, v, at, values[o.Key])
			}
		}
	}
}

// Example 1 of the whole: two of three copies have told that nothing stands ahead; that is fixed, and sent to all six nodes, and those of its shard tell the value.
func TestExampleOfTheWhole(t *testing.T) {
	l := ops(write(1, 4))
	c, sent, _ := Begin(api.Txn{Id: 5, Ops: l})
	if !sameFrames(sent, asksTo(5, l, 3, 4, 5)) {
		t.Fatalf("%+v", sent)
	}
	c, sent, _ = Take(c, 5, told(3))
	if len(sent) != 0 {
		t.Fatalf("%+v", sent)
	}
	c, sent, _ = Take(c, 5, told(5))
	if !sameFrames(sent, commitsTo(5, l, nil, 0, 1, 2, 3, 4, 5)) {
		t.Fatalf("%+v", sent)
	}
	for _, f := range sent {
		_, answers, e := node.Take(api.Node{}, f.Node, f)
		if e != api.OK {
			t.Fatalf("%d", e)
		}
		for _, a := range answers {
			c, _, _ = Take(c, 5, a)
		}
	}
	if v, ok := Result(c); !ok || !slices.Equal(v, list(4)) || len(Again(c, 5)) != 0 {
		t.Errorf("%v, %v, %+v", v, ok, c)
	}
}
