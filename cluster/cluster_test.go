package cluster

import (
	"math"
	"reflect"
	"slices"
	"strings"
	"testing"

	"januspost/api"
	"januspost/wire"
)

func read(key int) api.Op     { return api.Op{Kind: api.Read, Key: key} }
func write(key, n int) api.Op { return api.Op{Kind: api.Write, Key: key, N: n} }
func add(key, n int) api.Op   { return api.Op{Kind: api.Add, Key: key, N: n} }

func ops(l ...api.Op) []api.Op { return l }
func list(l ...int) []int      { return l }

func begin(l ...api.Op) api.Act { return api.Act{Kind: api.ActBegin, Ops: l} }
func deliver(n int) api.Act     { return api.Act{Kind: api.ActDeliver, N: n} }
func twice(n int) api.Act       { return api.Act{Kind: api.ActCopy, N: n} }
func drop(n int) api.Act        { return api.Act{Kind: api.ActDrop, N: n} }
func again(n int) api.Act       { return api.Act{Kind: api.ActAgain, N: n} }
func crash(n int) api.Act       { return api.Act{Kind: api.ActCrash, N: n} }
func tear(n, m int) api.Act     { return api.Act{Kind: api.ActTear, N: n, M: m} }
func rise(n int) api.Act        { return api.Act{Kind: api.ActRise, N: n} }

func number(n int, values ...int) api.Reply { return api.Reply{N: n, Values: values} }
func code(e api.Errno) api.Reply            { return api.Reply{Code: e} }

// wildNumbers is numbers at the edges of all that is numbered, and far from it.
func wildNumbers() []int {
	return list(math.MinInt, math.MinInt32, -256, -1, 0, 1, 5, 6, 7, 8, 9, 31, 32, 59, 60, 256, 400, 401, 1<<32, math.MaxInt)
}

// ask is the bytes of an Ask.
func ask(t *testing.T, n, id int, l []api.Op) string {
	t.Helper()
	return bytesOf(t, api.Frame{Kind: api.Ask, Node: n, Id: id, Ops: l})
}

// bytesOf is the bytes of a frame.
func bytesOf(t *testing.T, f api.Frame) string {
	t.Helper()
	s, e := wire.Encode(f)
	if e != api.OK {
		t.Fatalf("%+v: %d", f, e)
	}
	return s
}

// record is a text as it stands in a log.
func record(s string) string {
	return string([]byte{byte(len(s) / 256), byte(len(s) % 256)}) + s
}

// sameReply is whether replies are the same, whether lists without elements are nil or not.
func sameReply(a, b api.Reply) bool {
	return a.Code == b.Code && a.N == b.N && slices.Equal(a.Values, b.Values)
}

// sameNode is whether states are the same, whether lists without elements are nil or not.
func sameNode(a, b api.Node) bool {
	for n, x := range a.Entries {
		y := b.Entries[n]
		if x.State != y.State || !slices.Equal(x.Ops, y.Ops) || !slices.Equal(x.First, y.First) ||
			!slices.Equal(x.Deps, y.Deps) || !slices.Equal(x.At, y.At) || !slices.Equal(x.Values, y.Values) {
			return false
		}
	}
	return slices.Equal(a.Order, b.Order) && a.Values == b.Values
}

// sameCase is whether cases are the same, whether lists without elements are nil or not.
func sameCase(a, b api.Case) bool {
	return a.Begun == b.Begun && a.Fixed == b.Fixed && slices.Equal(a.Ops, b.Ops) && slices.Equal(a.Deps, b.Deps) &&
		a.Told == b.Told && a.Known == b.Known && a.Has == b.Has && a.Values == b.Values
}

// same is whether two clusters show the same.
func same(a, b *Cluster) bool {
	for n := range api.Nodes {
		x, down := a.Node(n)
		y, alsoDown := b.Node(n)
		if down != alsoDown || !sameNode(x, y) || a.Log(n) != b.Log(n) {
			return false
		}
	}
	for n := range api.MaxTxns {
		if !sameCase(a.Case(n), b.Case(n)) {
			return false
		}
	}
	return slices.Equal(a.Net(), b.Net())
}

// step is an act, and the reply that is wanted.
type step struct {
	act  api.Act
	want api.Reply
}

// run does acts, one by one.
func run(t *testing.T, c *Cluster, steps ...step) {
	t.Helper()
	for i, s := range steps {
		if r := c.Do(s.act); !sameReply(r, s.want) {
			t.Fatalf("act %d, %+v: %+v, want %+v", i, s.act, r, s.want)
		}
	}
}

// done is a cluster at which acts were done, all of them with success.
func done(t *testing.T, l ...api.Act) *Cluster {
	t.Helper()
	c := New()
	for i, a := range l {
		if r := c.Do(a); r.Code != api.OK {
			t.Fatalf("act %d, %+v: %+v", i, a, r)
		}
	}
	return c
}

// changesNothing is held to if an act is refused so, and all is as it was.
func changesNothing(t *testing.T, c *Cluster, a api.Act, want api.Errno) {
	t.Helper()
	before := *c
	if r := c.Do(a); !sameReply(r, code(want)) {
		t.Errorf("%+v: %+v, want %d", a, r, want)
	}
	if !same(c, &before) {
		t.Errorf("%+v: not as it was", a)
	}
}

// deliverAll delivers what is under way, the first first, till nothing is.
func deliverAll(c *Cluster) {
	for len(c.Net()) > 0 {
		if c.Do(deliver(0)).Code == api.ErrFull {
			return
		}
	}
}

// wantNet is held to if just these are under way.
func wantNet(t *testing.T, c *Cluster, want ...string) {
	t.Helper()
	if !slices.Equal(c.Net(), want) {
		t.Errorf("under way are %q, want %q", c.Net(), want)
	}
}

// wantNode is held to if a node stands so.
func wantNode(t *testing.T, c *Cluster, n int, state api.Node, down bool, log string) {
	t.Helper()
	s, is := c.Node(n)
	if !sameNode(s, state) || is != down || c.Log(n) != log {
		t.Errorf("node %d: %+v, %v, %q; want %+v, %v, %q", n, s, is, c.Log(n), state, down, log)
	}
}

// asked is a state in which transaction id was asked, and nothing else heard of.
func asked(id int, l []api.Op) api.Node {
	var s api.Node
	s.Entries[id] = api.Entry{State: api.Asked, Ops: l}
	return s
}

// P7.1
func TestNew(t *testing.T) {
	for _, c := range []*Cluster{New(), {}} {
		for n := range api.Nodes {
			wantNode(t, c, n, api.Node{}, false, "")
		}
		for n := range api.MaxTxns {
			if !sameCase(c.Case(n), api.Case{}) {
				t.Errorf("case %d: %+v", n, c.Case(n))
			}
		}
		wantNet(t, c)
	}
	if a, b := New(), New(); a == nil || a == b {
		t.Error("two new clusters are one")
	} else if a.Do(begin(read(0))); len(b.Net()) != 0 {
		t.Error("what is done to one is done to the other")
	}
}

// P7.1: of what there is not.
func TestNoneSuch(t *testing.T) {
	full := done(t, begin(write(0, 1), write(1, 2)), crash(0), crash(5), deliver(1), deliver(1))
	for _, c := range []*Cluster{New(), full} {
		for _, n := range wildNumbers() {
			if n < 0 || n >= api.Nodes {
				wantNode(t, c, n, api.Node{}, false, "")
			}
			if n != 0 && !reflect.ValueOf(c.Case(n)).IsZero() {
				t.Errorf("case %d: %+v", n, c.Case(n))
			}
		}
	}
}

// P7.1, what holds everywhere: of a nil cluster.
func TestNil(t *testing.T) {
	var c *Cluster
	for _, n := range append(wildNumbers(), 2, 3, 4) {
		wantNode(t, c, n, api.Node{}, false, "")
		if !reflect.ValueOf(c.Case(n)).IsZero() {
			t.Errorf("case %d: %+v", n, c.Case(n))
		}
		for _, kind := range wildNumbers() {
			if r := c.Do(api.Act{Kind: kind, N: n, M: n, Ops: ops(read(1))}); !sameReply(r, code(api.ErrNone)) {
				t.Errorf("%d, %d: %+v", kind, n, r)
			}
		}
	}
	wantNet(t, c)
}

// P7.1: Net is what was sent, byte by byte, as it was sent.
func TestNetIsBytes(t *testing.T) {
	c := done(t, begin(write(1, 4)))
	wantNet(t, c,
		"\x01\x03\x00\x01\x02\x01\x80\x00\x00\x00\x00\x04\x00\x00",
		"\x01\x04\x00\x01\x02\x01\x80\x00\x00\x00\x00\x04\x00\x00",
		"\x01\x05\x00\x01\x02\x01\x80\x00\x00\x00\x00\x04\x00\x00")
	run(t, c, step{deliver(1), number(0)})
	wantNet(t, c,
		"\x01\x03\x00\x01\x02\x01\x80\x00\x00\x00\x00\x04\x00\x00",
		"\x01\x05\x00\x01\x02\x01\x80\x00\x00\x00\x00\x04\x00\x00",
		"\x02\x04\x00\x00\x00\x00")
	if want := "\x00\x0e\x01\x04\x00\x01\x02\x01\x80\x00\x00\x00\x00\x04\x00\x00"; c.Log(4) != want {
		t.Errorf("%q, want %q", c.Log(4), want)
	}
}

// P7.2: a Kind that is none of the eight.
func TestKindOfNone(t *testing.T) {
	for _, kind := range append(wildNumbers(), 10, 100) {
		if kind >= api.ActBegin && kind <= api.ActRise {
			continue
		}
		c := done(t, begin(write(0, 1)), crash(0))
		for _, n := range list(-1, 0, 1, 6) {
			changesNothing(t, c, api.Act{Kind: kind, N: n, Ops: ops(read(1))}, api.ErrKind)
		}
	}
}

// P7.2: acts are counted, whatever their replies; when MaxActs were done nothing is done any more.
func TestMaxActs(t *testing.T) {
	for why, filler := range map[string]api.Act{
		"no kind":  {},
		"no form":  begin(),
		"no frame": deliver(9),
		"no node":  crash(6),
		"is up":    rise(0),
		"a tear":   tear(5, 1),
	} {
		c := done(t, begin(write(0, 1)))
		want := c.Do(filler)
		for range api.MaxActs - 3 {
			if r := c.Do(filler); !sameReply(r, want) {
				t.Fatalf("%s: %+v, want %+v", why, r, want)
			}
		}
		run(t, c, step{again(0), number(0)})
		for range 3 {
			for kind := range 10 {
				changesNothing(t, c, api.Act{Kind: kind, Ops: ops(read(1))}, api.ErrFull)
			}
			changesNothing(t, c, api.Act{Kind: math.MinInt, N: -1}, api.ErrFull)
			changesNothing(t, c, begin(), api.ErrFull)
			changesNothing(t, c, again(31), api.ErrFull)
		}
	}
}

// P7.2: what is sent is behind all others, and where MaxNet are it is lost.
func TestMaxNet(t *testing.T) {
	both, one := ops(read(0), read(1)), ops(read(3))
	c := New()
	for id := range 9 {
		run(t, c, step{begin(both...), number(id)})
	}
	run(t, c, step{begin(one...), number(9)})
	// 57 are under way: of six more three are lost.
	run(t, c, step{begin(both...), number(10)})
	net := c.Net()
	if len(net) != api.MaxNet {
		t.Fatalf("%d are under way", len(net))
	}
	for n := range 3 {
		if net[54+n] != ask(t, 3+n, 9, one) || net[57+n] != ask(t, n, 10, both) {
			t.Errorf("%d: %q, %q", n, net[54+n], net[57+n])
		}
	}
	// All are lost, but begun it is.
	run(t, c, step{begin(one...), number(11)}, step{again(10), number(10)})
	wantNet(t, c, net...)
	if !sameCase(c.Case(11), api.Case{Begun: true, Ops: one}) {
		t.Errorf("%+v", c.Case(11))
	}
	// What stays under way leaves no room for its answer.
	run(t, c, step{twice(0), number(0)})
	wantNet(t, c, net...)
	wantNode(t, c, 0, asked(0, both), false, record(net[0]))
	// What is gone does.
	run(t, c, step{deliver(1), number(0)})
	told := bytesOf(t, api.Frame{Kind: api.Told, Node: 1})
	wantNet(t, c, slices.Concat(net[:1], net[2:], []string{told})...)
	run(t, c, step{drop(0), number(0)}, step{again(9), number(9)})
	wantNet(t, c, slices.Concat(net[2:], []string{told, ask(t, 3, 9, one)})...)
}

// P7.2: of two answers, with room for one, the first is sent.
func TestRoomForOneAnswer(t *testing.T) {
	c := done(t, begin(write(0, 5)), deliver(0), deliver(0), deliver(1), deliver(1))
	// A Commit to each of six is under way, behind an Ask to the third.
	for len(c.Net()) < api.MaxNet {
		c.Do(again(0))
	}
	run(t, c, step{deliver(1), number(0)})
	net := c.Net()
	if len(net) != api.MaxNet || net[59] != bytesOf(t, api.Frame{Kind: api.Known}) {
		t.Fatalf("%d: %q", len(net), net)
	}
	// With room for two both are.
	run(t, c, step{drop(0), number(0)})
	bring(t, c, api.Commit, 1, 0, number(0))
	net = c.Net()
	known, done := api.Frame{Kind: api.Known, Node: 1}, api.Frame{Kind: api.Done, Node: 1, At: list(0), Values: list(5)}
	if len(net) != api.MaxNet || net[58] != bytesOf(t, known) || net[59] != bytesOf(t, done) {
		t.Errorf("%d: %q", len(net), net)
	}
}

// P7.3
func TestBegin(t *testing.T) {
	c := New()
	even, odd := ops(add(6, -3)), ops(read(1), write(7, api.MaxValue))
	both := ops(write(0, -api.MaxValue), read(5), add(2, 0), add(3, 1))
	run(t, c, step{begin(even...), number(0)})
	wantNet(t, c, ask(t, 0, 0, even), ask(t, 1, 0, even), ask(t, 2, 0, even))
	run(t, c, step{begin(odd...), number(1)}, step{begin(both...), number(2)})
	wantNet(t, c, ask(t, 0, 0, even), ask(t, 1, 0, even), ask(t, 2, 0, even),
		ask(t, 3, 1, odd), ask(t, 4, 1, odd), ask(t, 5, 1, odd),
		ask(t, 0, 2, both), ask(t, 1, 2, both), ask(t, 2, 2, both), ask(t, 3, 2, both), ask(t, 4, 2, both), ask(t, 5, 2, both))
	for id, l := range [][]api.Op{even, odd, both} {
		if !sameCase(c.Case(id), api.Case{Begun: true, Ops: l}) {
			t.Errorf("%d: %+v", id, c.Case(id))
		}
	}
	for n := range api.Nodes {
		wantNode(t, c, n, api.Node{}, false, "")
	}
}

// P7.3: what is refused uses up no number; numbers in an act that nobody asks for are nothing.
func TestBeginRefuses(t *testing.T) {
	c := New()
	for id := range api.MaxTxns {
		for _, l := range [][]api.Op{nil, {}, {read(8)}, {read(-1)}, {read(0), add(0, 1)}, {{Kind: 4, Key: 1}}, {write(1, api.MaxValue+1)}, {read(0), read(1), read(2), read(3), read(4)}} {
			changesNothing(t, c, begin(l...), api.ErrForm)
		}
		a := begin(read(id % api.Keys))
		a.N, a.M = -7, math.MaxInt
		run(t, c, step{a, number(id)})
	}
	for range 2 {
		changesNothing(t, c, begin(read(0)), api.ErrFull)
		changesNothing(t, c, begin(), api.ErrFull)
	}
	run(t, c, step{again(31), number(31)})
}

// P7.4: ErrNone, and what is sent.
func TestAgain(t *testing.T) {
	c := New()
	for _, n := range wildNumbers() {
		changesNothing(t, c, again(n), api.ErrNone)
	}
	l := ops(write(1, 4), read(3))
	run(t, c, step{begin(l...), number(0)}, step{begin(), code(api.ErrForm)}, step{begin(l...), number(1)})
	for _, n := range wildNumbers() {
		if n != 0 && n != 1 {
			changesNothing(t, c, again(n), api.ErrNone)
		}
	}
	c.net = nil
	a := again(1)
	a.M, a.Ops = -1, ops(read(8))
	run(t, c, step{a, number(1)}, step{again(0), number(0)})
	wantNet(t, c, ask(t, 3, 1, l), ask(t, 4, 1, l), ask(t, 5, 1, l), ask(t, 3, 0, l), ask(t, 4, 0, l), ask(t, 5, 0, l))
	// Who has told is not asked again.
	run(t, c, step{deliver(1), number(1)}, step{deliver(5), number(1)}, step{again(1), number(1)})
	wantNet(t, c, ask(t, 3, 1, l), ask(t, 5, 1, l), ask(t, 3, 0, l), ask(t, 4, 0, l), ask(t, 5, 0, l), ask(t, 3, 1, l), ask(t, 5, 1, l))
}

// bring delivers the first frame under way of that kind, between that node and who has that transaction.
func bring(t *testing.T, c *Cluster, kind, n, id int, want api.Reply) {
	t.Helper()
	at := slices.IndexFunc(c.Net(), func(s string) bool {
		return int(s[0]) == kind && int(s[1]) == n && int(s[2]) == id
	})
	if at < 0 {
		t.Fatalf("no %d of %d, %d: %q", kind, n, id, c.Net())
	}
	run(t, c, step{deliver(at), want})
}

// P7.4, P7.5: from when on the reply of who has a transaction has its values; the reply of a node has none.
func TestValues(t *testing.T) {
	c := done(t, begin(write(1, 4), add(0, -2)), begin(read(7)))
	for _, kind := range list(api.Ask, api.Told) {
		for _, n := range list(0, 1, 3, 4) {
			bring(t, c, kind, n, 0, number(0))
			run(t, c, step{again(0), number(0)})
		}
	}
	bring(t, c, api.Commit, 0, 0, number(0))
	bring(t, c, api.Commit, 4, 0, number(0))
	bring(t, c, api.Known, 0, 0, number(0))
	bring(t, c, api.Done, 0, 0, number(0))
	bring(t, c, api.Known, 4, 0, number(0))
	run(t, c, step{again(0), number(0)})
	bring(t, c, api.Done, 4, 0, number(0, 4, -2))
	run(t, c, step{again(0), number(0, 4, -2)}, step{again(1), number(1)}, step{drop(0), number(0)})
	bring(t, c, api.Commit, 1, 0, number(0))
	bring(t, c, api.Done, 1, 0, number(0, 4, -2))
	bring(t, c, api.Known, 1, 0, number(0, 4, -2))
	bring(t, c, api.Ask, 2, 0, number(0))
	bring(t, c, api.Told, 2, 0, number(0, 4, -2))
	bring(t, c, api.Ask, 3, 1, number(1))
	bring(t, c, api.Told, 3, 1, number(1))
}

// P7.5: there is no N-th.
func TestNoFrame(t *testing.T) {
	c := done(t, begin(read(0)))
	for _, kind := range list(api.ActDeliver, api.ActCopy, api.ActDrop) {
		for _, n := range append(wildNumbers(), 3) {
			if n < 0 || n > 2 {
				changesNothing(t, c, api.Act{Kind: kind, N: n}, api.ErrNone)
			}
			changesNothing(t, New(), api.Act{Kind: kind, N: n}, api.ErrNone)
		}
	}
}

// P7.5: what is delivered or dropped is gone, wherever it was, and what is copied is not; M and Ops are nothing there.
func TestDeliverCopyDrop(t *testing.T) {
	l, m := ops(write(0, 1)), ops(read(2))
	for _, kind := range list(api.ActDeliver, api.ActCopy, api.ActDrop) {
		for at := range 6 {
			c := done(t, begin(l...), begin(m...))
			net := c.Net()
			id, n := at/3, at%3
			r := c.Do(api.Act{Kind: kind, N: at, M: -1, Ops: ops(read(9))})
			if !sameReply(r, number(id)) {
				t.Errorf("%d, %d: %+v", kind, at, r)
			}
			want := slices.Clone(net)
			if kind != api.ActCopy {
				want = slices.Delete(want, at, at+1)
			}
			if kind == api.ActDrop {
				wantNode(t, c, n, api.Node{}, false, "")
			} else {
				want = append(want, bytesOf(t, api.Frame{Kind: api.Told, Node: n, Id: id}))
				wantNode(t, c, n, asked(id, [][]api.Op{l, m}[id]), false, record(net[at]))
			}
			wantNet(t, c, want...)
		}
	}
}

// P7.5: what a node answers comes to who has the transaction: once, twice, or not.
func TestAnswersCome(t *testing.T) {
	l := ops(write(0, 1))
	at := func() *Cluster { return done(t, begin(read(5)), begin(l...), deliver(3), deliver(3), drop(3)) }
	told := [2]string{bytesOf(t, api.Frame{Kind: api.Told, Node: 0, Id: 1}), bytesOf(t, api.Frame{Kind: api.Told, Node: 1, Id: 1})}
	asks := at().Net()[:3]
	c := at()
	wantNet(t, c, append(asks, told[0], told[1])...)
	run(t, c, step{twice(3), number(1)}, step{twice(3), number(1)})
	wantNet(t, c, append(asks, told[0], told[1])...)
	want := api.Case{Begun: true, Ops: l, Told: [api.Nodes]bool{true}}
	if !sameCase(c.Case(1), want) {
		t.Errorf("%+v", c.Case(1))
	}
	run(t, c, step{drop(4), number(1)}, step{deliver(3), number(1)})
	wantNet(t, c, asks...)
	if !sameCase(c.Case(1), want) || !sameCase(c.Case(0), api.Case{Begun: true, Ops: ops(read(5))}) {
		t.Errorf("%+v, %+v", c.Case(1), c.Case(0))
	}
	// Most have told: what is fixed goes to all six, behind all others.
	c = at()
	run(t, c, step{deliver(4), number(1)}, step{deliver(3), number(1)})
	var commits []string
	for n := range api.Nodes {
		commits = append(commits, bytesOf(t, api.Frame{Kind: api.Commit, Node: n, Id: 1, Ops: l}))
	}
	wantNet(t, c, append(asks, commits...)...)
	want.Told, want.Fixed = [api.Nodes]bool{true, true}, true
	if !sameCase(c.Case(1), want) {
		t.Errorf("%+v", c.Case(1))
	}
}

// P7.5, P7.6: a frame that its node, or its transaction's case, refuses is gone too, and changes nothing else.
func TestFramesRefused(t *testing.T) {
	l := ops(write(0, 1))
	for why, x := range map[string]struct {
		f    api.Frame
		want api.Errno
	}{
		"an Ask to a shard that is not touched": {api.Frame{Kind: api.Ask, Node: 3, Id: 0, Ops: l}, api.ErrNone},
		"told of what was not begun":            {api.Frame{Kind: api.Told, Node: 0, Id: 1}, api.ErrRange},
		"known of what was not begun":           {api.Frame{Kind: api.Known, Node: 0, Id: 31}, api.ErrRange},
		"done of what was not begun":            {api.Frame{Kind: api.Done, Node: 0, Id: 2, At: list(0), Values: list(1)}, api.ErrRange},
	} {
		for _, kind := range list(api.ActDeliver, api.ActCopy) {
			c := done(t, begin(l...), tear(3, 0))
			c.net = append(c.net, bytesOf(t, x.f))
			want := *c
			if kind == api.ActDeliver {
				want.net = c.net[:3]
			}
			if r := c.Do(api.Act{Kind: kind, N: 3}); !sameReply(r, code(x.want)) {
				t.Errorf("%s: %+v", why, r)
			}
			if !same(c, &want) || !c.members[3].torn {
				t.Errorf("%s: it changed something", why)
			}
		}
	}
}

// P7.6: what comes to a node that is down is gone, and nothing else comes of it.
func TestComesToWhoIsDown(t *testing.T) {
	l := ops(write(0, 1), read(1))
	c := done(t, begin(l...), crash(4))
	net := c.Net()
	run(t, c, step{twice(4), code(api.ErrDown)})
	wantNet(t, c, net...)
	run(t, c, step{deliver(4), code(api.ErrDown)})
	wantNet(t, c, slices.Delete(slices.Clone(net), 4, 5)...)
	wantNode(t, c, 4, api.Node{}, true, "")
	run(t, c, step{again(0), number(0)}, step{drop(9), number(0)})
	// It was not written, so who rises has not heard of it.
	run(t, c, step{rise(4), code(api.OK)})
	wantNode(t, c, 4, api.Node{}, false, "")
}

// P7.6: what comes is written, then answered; what comes twice is written twice.
func TestComesToWhoIsUp(t *testing.T) {
	l, m := ops(write(0, 1)), ops(add(0, 2), read(3))
	c := done(t, begin(l...), begin(m...))
	run(t, c, step{twice(1), number(0)}, step{twice(4), number(1)}, step{twice(1), number(0)})
	s := asked(0, l)
	s.Entries[1] = api.Entry{State: api.Asked, Ops: m, First: list(0)}
	wantNode(t, c, 1, s, false, record(ask(t, 1, 0, l))+record(ask(t, 1, 1, m))+record(ask(t, 1, 0, l)))
	net := c.Net()[9:]
	first := bytesOf(t, api.Frame{Kind: api.Told, Node: 1})
	if !slices.Equal(net, []string{first, bytesOf(t, api.Frame{Kind: api.Told, Node: 1, Id: 1, Deps: list(0)}), first}) {
		t.Errorf("%q", net)
	}
	for _, n := range list(0, 2, 3, 4, 5) {
		wantNode(t, c, n, api.Node{}, false, "")
	}
}

// upTo is the numbers from 0 on, below n.
func upTo(n int) []int {
	var l []int
	for i := range n {
		l = append(l, i)
	}
	return l
}

// P7.6: a record is cut off behind as many bytes as the tear says, whatever they are of it; then the node is down, and has answered nothing.
func TestTear(t *testing.T) {
	l, m := ops(write(1, 4)), ops(add(1, 1), read(0))
	for _, kind := range list(api.ActDeliver, api.ActCopy) {
		for _, bytes := range append(upTo(30), api.MaxFrame) {
			c := done(t, begin(l...), begin(m...), deliver(1))
			log := record(ask(t, 4, 0, l))
			full := log + record(ask(t, 4, 1, m))
			wantNode(t, c, 4, asked(0, l), false, log)
			run(t, c, step{tear(4, bytes), code(api.OK)})
			wantNode(t, c, 4, asked(0, l), false, log)
			net := c.Net()
			at := slices.Index(net, ask(t, 4, 1, m))
			run(t, c, step{api.Act{Kind: kind, N: at}, code(api.ErrDown)})
			wantNode(t, c, 4, api.Node{}, true, full[:min(len(log)+bytes, len(full))])
			if kind == api.ActDeliver {
				net = slices.Delete(net, at, at+1)
			}
			wantNet(t, c, net...)
			// What is cut off was never there.
			run(t, c, step{rise(4), code(api.OK)})
			s := asked(0, l)
			if len(log)+bytes >= len(full) {
				s.Entries[1] = api.Entry{State: api.Asked, Ops: m, First: list(0)}
				log = full
			}
			wantNode(t, c, 4, s, false, log)
			wantNet(t, c, net...)
		}
	}
}

// P7.6, P7.7: a tear is of one node, waits for what comes to it, gives way to a later one, and tears once.
func TestTearIsKept(t *testing.T) {
	l := ops(read(0))
	s := ask(t, 1, 0, l)
	c := done(t, begin(l...), tear(1, 3), twice(0), twice(2), again(0), crash(0), rise(0))
	run(t, c, step{rise(1), code(api.ErrDown)}, step{tear(1, 401), code(api.ErrRange)}, step{tear(1, -1), code(api.ErrRange)})
	wantNode(t, c, 0, asked(0, l), false, record(ask(t, 0, 0, l)))
	wantNode(t, c, 2, asked(0, l), false, record(ask(t, 2, 0, l)))
	wantNode(t, c, 1, api.Node{}, false, "")
	run(t, c, step{twice(1), code(api.ErrDown)})
	wantNode(t, c, 1, api.Node{}, true, record(s)[:3])
	run(t, c, step{rise(1), code(api.OK)}, step{twice(1), number(0)})
	wantNode(t, c, 1, asked(0, l), false, record(s))
	run(t, c, step{tear(1, 9), code(api.OK)}, step{tear(1, 0), code(api.OK)}, step{twice(1), code(api.ErrDown)})
	wantNode(t, c, 1, api.Node{}, true, record(s))
	run(t, c, step{rise(1), code(api.OK)}, step{tear(1, 0), code(api.OK)}, step{tear(1, 9), code(api.OK)}, step{twice(1), code(api.ErrDown)})
	wantNode(t, c, 1, api.Node{}, true, record(s)+record(s)[:9])
}

// P7.6: for who went down, by whatever, no tear is set any more.
func TestTearIsGone(t *testing.T) {
	l := ops(read(0))
	for _, bytes := range list(0, 5, api.MaxFrame) {
		c := done(t, begin(l...), tear(1, bytes), crash(1), rise(1), twice(1))
		wantNode(t, c, 1, asked(0, l), false, record(ask(t, 1, 0, l)))
	}
}

// P7.6: a log that is full: Write's error, and all is as it was; with a tear the node goes down all the same.
func TestFullLog(t *testing.T) {
	l := ops(read(0))
	s := record(ask(t, 1, 0, l))
	fits := strings.Repeat("x", api.MaxLog-len(s))
	c := done(t, begin(l...))
	c.members[1].log = fits
	run(t, c, step{twice(1), number(0)})
	wantNode(t, c, 1, asked(0, l), false, fits+s)
	for _, torn := range []bool{false, true} {
		c = done(t, begin(l...))
		c.members[1].log = fits + "x"
		want := code(api.ErrFull)
		if torn {
			c.Do(tear(1, 5))
			want = code(api.ErrDown)
		}
		run(t, c, step{twice(1), want})
		wantNode(t, c, 1, api.Node{}, torn, fits+"x")
		wantNet(t, c, ask(t, 0, 0, l), ask(t, 1, 0, l), ask(t, 2, 0, l))
	}
}

// P7.7: the errors, the first that applies.
func TestChangeRefuses(t *testing.T) {
	for n := range api.Nodes {
		for _, down := range []bool{false, true} {
			c := done(t, begin(read(0), read(1)), deliver(n))
			if down {
				c.Do(crash(n))
			}
			for _, m := range wildNumbers() {
				a := crash(n)
				if !down {
					a = rise(n)
				}
				a.M, a.Ops = m, ops(read(9))
				changesNothing(t, c, a, api.ErrDown)
				if m < 0 || m > api.MaxFrame {
					changesNothing(t, c, tear(n, m), api.ErrRange)
				} else if down {
					changesNothing(t, c, tear(n, m), api.ErrDown)
				}
				if m < 0 || m >= api.Nodes {
					changesNothing(t, c, crash(m), api.ErrRange)
					changesNothing(t, c, rise(m), api.ErrRange)
					changesNothing(t, c, tear(m, 0), api.ErrRange)
					changesNothing(t, c, tear(m, -1), api.ErrRange)
				}
			}
		}
	}
}

// P7.7: a reply is a Code alone, whatever else the act holds, and no other node is changed.
func TestChange(t *testing.T) {
	l := ops(read(0), read(1))
	for n := range api.Nodes {
		c := done(t, begin(l...), twice(0), twice(1), twice(2), twice(3), twice(4), twice(5))
		for _, a := range []api.Act{tear(n, 0), tear(n, api.MaxFrame), crash(n), rise(n), crash(n)} {
			if a.Kind != api.ActTear {
				a.M = -1
			}
			a.Ops = ops(read(9))
			run(t, c, step{a, code(api.OK)})
			for m := range api.Nodes {
				log := record(ask(t, m, 0, l))
				if m == n && a.Kind == api.ActCrash {
					wantNode(t, c, m, api.Node{}, true, log)
				} else {
					wantNode(t, c, m, asked(0, l), false, log)
				}
			}
		}
		if len(c.Net()) != 12 {
			t.Errorf("%q", c.Net())
		}
	}
}

// P7.7: who rises has the state of all that it had answered, and goes on from it.
func TestRise(t *testing.T) {
	c := done(t, begin(write(0, 5)), begin(add(0, 2), read(1)))
	deliverAll(c)
	for n := range api.Nodes {
		s, _ := c.Node(n)
		if len(s.Order) != 2 {
			t.Fatalf("%d: %v", n, s.Order)
		}
		log := c.Log(n)
		run(t, c, step{crash(n), code(api.OK)})
		wantNode(t, c, n, api.Node{}, true, log)
		run(t, c, step{rise(n), code(api.OK)})
		wantNode(t, c, n, s, false, log)
	}
	run(t, c, step{begin(read(0)), number(2)})
	deliverAll(c)
	run(t, c, step{again(2), number(2, 7)})
}

// P7.8
func TestRun(t *testing.T) {
	l := []api.Act{begin(write(1, 4)), begin(), {}, deliver(0), deliver(9), crash(0), again(0), rise(1), drop(1), tear(3, 401), deliver(2), deliver(0), deliver(3), deliver(1)}
	c := New()
	var want []api.Reply
	for _, a := range l {
		want = append(want, c.Do(a))
	}
	for range 2 {
		got, e := Run(l)
		if e != api.OK || !slices.EqualFunc(got, want, sameReply) {
			t.Errorf("%+v, %d, want %+v", got, e, want)
		}
	}
	for _, none := range [][]api.Act{nil, {}} {
		if got, e := Run(none); e != api.OK || len(got) != 0 {
			t.Errorf("%+v, %d", got, e)
		}
	}
}

// P7.8: more than MaxActs.
func TestRunOfMany(t *testing.T) {
	l := make([]api.Act, api.MaxActs)
	l[0], l[api.MaxActs-1] = begin(read(0)), again(0)
	got, e := Run(l)
	if e != api.OK || len(got) != api.MaxActs || !sameReply(got[1], code(api.ErrKind)) || !sameReply(got[api.MaxActs-1], number(0)) {
		t.Errorf("%+v, %d", got, e)
	}
	for _, more := range list(1, 2, 5000) {
		if got, e := Run(append(l, make([]api.Act, more)...)); e != api.ErrFull || len(got) != 0 {
			t.Errorf("%d more: %d replies, %d", more, len(got), e)
		}
	}
}

// spoil changes a list, its spare room too.
func spoil[T any](l []T, with T) {
	l = l[:cap(l)]
	for i := range l {
		l[i] = with
	}
}

// spoilAll changes all that a cluster answers.
func spoilAll(c *Cluster) {
	for n := range api.Nodes {
		s, _ := c.Node(n)
		for _, e := range s.Entries {
			spoil(e.Ops, api.Op{})
			spoil(e.First, -1)
			spoil(e.Deps, -1)
			spoil(e.At, -1)
			spoil(e.Values, -1)
		}
		spoil(s.Order, -1)
	}
	for n := range api.MaxTxns {
		spoil(c.Case(n).Ops, api.Op{})
		spoil(c.Case(n).Deps, -1)
	}
	spoil(c.Net(), "")
}

// What holds everywhere: what a cluster answers is the caller's, and what is handed in stays the caller's.
func TestMemoryIsTheCallers(t *testing.T) {
	acts := []api.Act{begin(write(0, 1), add(1, 2)), begin(add(0, 5)), begin(read(1), write(0, 3))}
	for range 80 {
		acts = append(acts, deliver(0))
	}
	acts = append(acts, again(0), again(1), again(2), crash(0), rise(0))
	plain, spoiled := New(), New()
	for i, a := range acts {
		want := plain.Do(a)
		a.Ops = append(make([]api.Op, 0, 9), a.Ops...)
		full := a.Ops[:cap(a.Ops)]
		spare := slices.Clone(full)
		got := spoiled.Do(a)
		if !sameReply(got, want) {
			t.Fatalf("act %d: %+v, want %+v", i, got, want)
		}
		if !slices.Equal(full, spare) {
			t.Fatalf("act %d: changed %v", i, full)
		}
		spoil(a.Ops, api.Op{Kind: 9})
		spoil(got.Values, -1)
		spoilAll(spoiled)
		if !same(plain, spoiled) {
			t.Fatalf("act %d: not the same", i)
		}
	}
	if s, _ := plain.Node(0); len(s.Order) != 3 {
		t.Errorf("%+v", s)
	}
}

// What a cluster answers hangs on what was done to it: of one that was copied each goes its own way.
func TestCopiesGoTheirWays(t *testing.T) {
	l, m := ops(read(7)), ops(read(6))
	for at := range 60 {
		c := done(t, begin(write(0, 1), add(1, 2)), begin(add(0, 5)))
		for range at {
			c.Do(deliver(0))
		}
		net := c.Net()
		other, third := *c, *c
		run(t, &other, step{begin(l...), number(2)})
		run(t, c, step{begin(m...), number(2)})
		third.Do(drop(0))
		wantNet(t, &other, slices.Concat(net, []string{ask(t, 3, 2, l), ask(t, 4, 2, l), ask(t, 5, 2, l)})...)
		wantNet(t, c, slices.Concat(net, []string{ask(t, 0, 2, m), ask(t, 1, 2, m), ask(t, 2, 2, m)})...)
		wantNet(t, &third, net[min(1, len(net)):]...)
		if !sameCase(other.Case(2), api.Case{Begun: true, Ops: l}) || !sameCase(third.Case(2), api.Case{}) {
			t.Errorf("%d: %+v, %+v", at, other.Case(2), third.Case(2))
		}
		// What a node takes, or loses, it takes and loses once.
		before := third
		deliverAll(&other)
		other.Do(crash(0))
		if !same(&before, &third) {
			t.Errorf("%d: not as it was", at)
		}
	}
}

// Example 1 of the whole: two of three copies have told that nothing stands ahead; that is fixed, and sent to all six nodes, and those of its shard tell the value.
func TestExampleOfOne(t *testing.T) {
	c := done(t, begin(write(1, 4)), deliver(0), deliver(0), deliver(1), deliver(1))
	if !c.Case(0).Fixed || len(c.Net()) != 7 {
		t.Fatalf("%+v, %q", c.Case(0), c.Net())
	}
	deliverAll(c)
	run(t, c, step{again(0), number(0, 4)})
	wantNet(t, c)
	for n := range api.Nodes {
		s, _ := c.Node(n)
		if !slices.Equal(s.Order, list(0)) || s.Values[1] != 4*(n/api.Copies) {
			t.Errorf("%d: %+v", n, s)
		}
	}
}

// Example 2 of the whole: two that meet at two shards, in other orders: all nodes do first the one with the lesser number.
func TestExampleOfTwo(t *testing.T) {
	l := ops(add(1, 1), add(2, 1))
	c := done(t, begin(l...), begin(l...))
	for n := range api.Nodes {
		first := n / api.Copies
		bring(t, c, api.Ask, n, first, number(first))
		bring(t, c, api.Ask, n, 1-first, number(1-first))
	}
	deliverAll(c)
	for id := range 2 {
		if x := c.Case(id); !slices.Equal(x.Deps, list(1-id)) {
			t.Errorf("%d: %+v", id, x)
		}
		c.Do(again(id))
		deliverAll(c)
		run(t, c, step{again(id), number(id, id+1, id+1)})
	}
	for n := range api.Nodes {
		if s, _ := c.Node(n); !slices.Equal(s.Order, list(0, 1)) {
			t.Errorf("%d: %v", n, s.Order)
		}
	}
}

// Example 3 of the whole: a node goes down while it writes: what is cut off was never there, and it has answered nothing.
func TestExampleOfACut(t *testing.T) {
	c := done(t, begin(write(1, 4)), tear(3, 7))
	run(t, c, step{deliver(0), code(api.ErrDown)})
	if len(c.Net()) != 2 || len(c.Log(3)) != 7 {
		t.Errorf("%q, %q", c.Net(), c.Log(3))
	}
	run(t, c, step{rise(3), code(api.OK)})
	wantNode(t, c, 3, api.Node{}, false, "")
}

// Example 4 of the whole: a node waits for a transaction that it has not heard of, till that comes.
func TestExampleOfWaiting(t *testing.T) {
	c := done(t, begin(write(1, 4)), begin(add(1, 1)))
	for id := range 2 {
		for _, kind := range list(api.Ask, api.Told) {
			bring(t, c, kind, 3, id, number(id))
			bring(t, c, kind, 4, id, number(id))
		}
	}
	bring(t, c, api.Commit, 5, 1, number(1))
	if s, _ := c.Node(5); s.Entries[1].State != api.Committed || len(s.Order) != 0 {
		t.Errorf("%+v", s)
	}
	bring(t, c, api.Commit, 5, 0, number(0))
	if s, _ := c.Node(5); !slices.Equal(s.Order, list(0, 1)) || s.Values[1] != 5 {
		t.Errorf("%+v", s)
	}
}
