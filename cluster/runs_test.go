package cluster

import (
	"math/rand"
	"slices"
	"testing"

	"januspost/api"
	"januspost/book"
	"januspost/node"
	"januspost/post"
	"januspost/wire"
)

// world is a cluster by the words of the promises, with nothing shared between what it has been.
type world struct {
	acts, begun int
	states      [api.Nodes]api.Node
	down        [api.Nodes]bool
	tears       [api.Nodes][]int // nothing, or how many bytes
	logs        [api.Nodes]string
	cases       [api.MaxTxns]api.Case
	net         []string
}

// do is what comes of an act, by the words of the promises.
func (w *world) do(a api.Act) api.Reply {
	w.acts++
	switch {
	case w.acts > 400:
		return code(api.ErrFull)
	case a.Kind < 1 || a.Kind > 8:
		return code(api.ErrKind)
	case a.Kind == api.ActBegin:
		return w.doBegin(a.Ops)
	case a.Kind == api.ActAgain:
		if a.N < 0 || a.N > 31 || !w.cases[a.N].Begun {
			return code(api.ErrNone)
		}
		w.sent(post.Again(w.cases[a.N], a.N))
		return w.result(a.N)
	case a.Kind > api.ActAgain:
		return code(w.doChange(a))
	}
	return w.doFrame(a)
}

func (w *world) sent(l []api.Frame) {
	for _, f := range l {
		s, _ := wire.Encode(f)
		w.net = append(slices.Clip(w.net), s)
	}
	w.net = w.net[:min(len(w.net), 60)]
}

func (w *world) result(id int) api.Reply {
	if v, ok := post.Result(w.cases[id]); ok {
		return number(id, v...)
	}
	return number(id)
}

func (w *world) doBegin(l []api.Op) api.Reply {
	if w.begun == 32 {
		return code(api.ErrFull)
	}
	x, sent, e := post.Begin(api.Txn{Id: w.begun, Ops: l})
	if e != api.OK {
		return code(e)
	}
	w.cases[w.begun] = x
	w.begun++
	w.sent(sent)
	return number(w.begun - 1)
}

func (w *world) doFrame(a api.Act) api.Reply {
	if a.N < 0 || a.N >= len(w.net) {
		return code(api.ErrNone)
	}
	s := w.net[a.N]
	if a.Kind != api.ActCopy {
		var rest []string
		for i, other := range w.net {
			if i != a.N {
				rest = append(rest, other)
			}
		}
		w.net = rest
	}
	f, _ := wire.Decode(s)
	if a.Kind == api.ActDrop {
		return number(f.Id)
	}
	if f.Kind == api.Ask || f.Kind == api.Commit {
		if e := w.doNode(f, s); e != api.OK {
			return code(e)
		}
		return number(f.Id)
	}
	x, sent, e := post.Take(w.cases[f.Id], f.Id, f)
	if e != api.OK {
		return code(e)
	}
	w.cases[f.Id] = x
	w.sent(sent)
	return w.result(f.Id)
}

func (w *world) doNode(f api.Frame, s string) api.Errno {
	n := f.Node
	if w.down[n] {
		return api.ErrDown
	}
	state, answers, e := node.Take(w.states[n], n, f)
	if e != api.OK {
		return e
	}
	if len(w.tears[n]) > 0 {
		w.logs[n] = book.Tear(w.logs[n], s, w.tears[n][0])
		w.fall(n)
		return api.ErrDown
	}
	log, e := book.Write(w.logs[n], s)
	if e != api.OK {
		return e
	}
	w.logs[n], w.states[n] = log, state
	w.sent(answers)
	return api.OK
}

func (w *world) fall(n int) {
	w.down[n], w.states[n], w.tears[n] = true, api.Node{}, nil
}

func (w *world) doChange(a api.Act) api.Errno {
	if a.N < 0 || a.N > 5 || a.Kind == api.ActTear && (a.M < 0 || a.M > 400) {
		return api.ErrRange
	}
	if w.down[a.N] == (a.Kind != api.ActRise) {
		return api.ErrDown
	}
	switch a.Kind {
	case api.ActCrash:
		w.fall(a.N)
	case api.ActTear:
		w.tears[a.N] = list(a.M)
	case api.ActRise:
		l, whole := book.Read(w.logs[a.N])
		w.logs[a.N] = w.logs[a.N][:whole]
		w.states[a.N], _ = node.Replay(a.N, l)
		w.down[a.N] = false
	}
	return api.OK
}

// shows is held to if a cluster shows just this world.
func (w *world) shows(t *testing.T, c *Cluster) {
	t.Helper()
	for n := range api.Nodes {
		if s, down := c.Node(n); down != w.down[n] || !sameNode(s, w.states[n]) || c.Log(n) != w.logs[n] {
			t.Fatalf("node %d: %+v, %v, %q; want %+v, %v, %q", n, s, down, c.Log(n), w.states[n], w.down[n], w.logs[n])
		}
	}
	for n := range api.MaxTxns {
		if !sameCase(c.Case(n), w.cases[n]) {
			t.Fatalf("case %d: %+v, want %+v", n, c.Case(n), w.cases[n])
		}
	}
	if !slices.Equal(c.Net(), w.net) {
		t.Fatalf("under way are %q, want %q", c.Net(), w.net)
	}
}

// someOps is operations of a transaction, of few keys, so that many are in one another's way.
func someOps(r *rand.Rand) []api.Op {
	var l []api.Op
	for _, key := range r.Perm(4)[:1+r.Intn(3)] {
		switch r.Intn(4) {
		case 0:
			l = append(l, read(key))
		case 1:
			l = append(l, write(key, r.Intn(100)))
		default:
			l = append(l, add(key, 1+r.Intn(9)))
		}
	}
	return l
}

// someAct is an act that may be of any kind; of a frame more often than of others.
func someAct(r *rand.Rand, c *Cluster) api.Act {
	some := func(n int) int { return r.Intn(max(n, 1)) }
	frame, who := some(len(c.Net())), some(api.Nodes)
	switch n := r.Intn(100); {
	case n < 8:
		return begin(someOps(r)...)
	case n < 12:
		return twice(frame)
	case n < 15:
		return drop(frame)
	case n < 25:
		return again(some(c.begun))
	case n < 28:
		return crash(who)
	case n < 32:
		return tear(who, r.Intn(60))
	case n < 42:
		return rise(who)
	case n < 46:
		wild := wildNumbers()
		return api.Act{Kind: wild[some(len(wild))], N: wild[some(len(wild))], M: wild[some(len(wild))], Ops: someOps(r)}
	}
	return deliver(frame)
}

// P7.1 to P7.8: whatever is done, replies and all that is shown are what the promises' words say.
func TestManyActs(t *testing.T) {
	r := rand.New(rand.NewSource(7))
	for round := range 60 {
		c, w := New(), &world{}
		var acts []api.Act
		var replies []api.Reply
		for len(acts) < api.MaxActs+round%3 {
			a := someAct(r, c)
			got, want := c.Do(a), w.do(a)
			if !sameReply(got, want) {
				t.Fatalf("%+v: %+v, want %+v", a, got, want)
			}
			w.shows(t, c)
			acts, replies = append(acts, a), append(replies, got)
		}
		acts, replies = acts[:api.MaxActs], replies[:api.MaxActs]
		if got, e := Run(acts); e != api.OK || !slices.EqualFunc(got, replies, sameReply) {
			t.Fatalf("Run: %+v, %d", got, e)
		}
	}
}

// logsHold is held to if the state of each node is just what its log says: of who is down nothing.
func logsHold(t *testing.T, c *Cluster) {
	t.Helper()
	for n := range api.Nodes {
		s, down := c.Node(n)
		l, whole := book.Read(c.Log(n))
		want, e := node.Replay(n, l)
		if down {
			want = api.Node{}
		}
		if e != api.OK || !sameNode(s, want) || !down && whole != len(c.Log(n)) || !node.Good(s) {
			t.Fatalf("node %d: %+v, its log says %+v, %d", n, s, want, e)
		}
	}
}

// copiesAgree is held to if no two copies told other values of an operation, nor any of them others than who has the transaction heard.
func copiesAgree(t *testing.T, c *Cluster) {
	t.Helper()
	for id := range c.begun {
		x := c.Case(id)
		told, has := x.Values, x.Has
		for n := range api.Nodes {
			s, _ := c.Node(n)
			for i, at := range s.Entries[id].At {
				v := s.Entries[id].Values[i]
				if has[at] && told[at] != v {
					t.Fatalf("%d at %d: %d and %d", id, at, told[at], v)
				}
				told[at], has[at] = v, true
			}
		}
	}
}

// heal brings all nodes up, and asks and delivers till nothing is lacking; false: the acts were used up ahead of that.
func heal(r *rand.Rand, c *Cluster) bool {
	for c.acts < api.MaxActs {
		lacking := 0
		for n := range api.Nodes {
			// A tear that is still set brings one down once more.
			if _, down := c.Node(n); down {
				lacking++
				c.Do(rise(n))
			}
		}
		for id := range c.begun {
			lacking += len(post.Again(c.Case(id), id))
			if len(c.Net()) == 0 {
				c.Do(again(id))
			}
		}
		if lacking == 0 {
			return true
		}
		for len(c.Net()) > 0 && c.acts < api.MaxActs {
			c.Do(deliver(r.Intn(len(c.Net()))))
		}
	}
	return false
}

// The whole: whatever is lost, comes twice, late, or is cut off, all that is told is as if it was done one after the other.
func TestAsIfOneAfterTheOther(t *testing.T) {
	r := rand.New(rand.NewSource(77))
	healed := 0
	for range 300 {
		c := New()
		for range 1 + r.Intn(4) {
			c.Do(begin(someOps(r)...))
		}
		for range r.Intn(120) {
			if a := someAct(r, c); a.Kind != api.ActBegin {
				c.Do(a)
			}
			logsHold(t, c)
			copiesAgree(t, c)
		}
		if heal(r, c) {
			healed++
			inOneOrder(t, c)
		}
		logsHold(t, c)
		copiesAgree(t, c)
	}
	if healed < 150 {
		t.Errorf("only %d came to their end", healed)
	}
}

// inOneOrder is held to if what was told comes of doing all one after the other, in the order of any node.
func inOneOrder(t *testing.T, c *Cluster) {
	t.Helper()
	for n := range api.Nodes {
		s, _ := c.Node(n)
		if len(s.Order) != c.begun {
			t.Fatalf("node %d has done %v of %d", n, s.Order, c.begun)
		}
		var values [api.Keys]int
		for _, id := range s.Order {
			told, ok := post.Result(c.Case(id))
			for at, o := range c.Case(id).Ops {
				switch o.Kind {
				case api.Write:
					values[o.Key] = o.N
				case api.Add:
					values[o.Key] += o.N
				}
				if !ok || told[at] != values[o.Key] {
					t.Fatalf("%d told %v, %v; at %d %d was wanted", id, told, ok, at, values[o.Key])
				}
			}
		}
	}
}
