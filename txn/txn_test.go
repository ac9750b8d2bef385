package txn

import (
	"math"
	"slices"
	"testing"

	"januspost/api"
)

func read(key int) api.Op     { return api.Op{Kind: api.Read, Key: key} }
func write(key, n int) api.Op { return api.Op{Kind: api.Write, Key: key, N: n} }
func add(key, n int) api.Op   { return api.Op{Kind: api.Add, Key: key, N: n} }

// P1.1
func TestShard(t *testing.T) {
	for _, c := range []struct{ key, want int }{
		{0, 0}, {1, 1}, {2, 0}, {7, 1},
		{8, 0}, {9, 1}, {-1, 1}, {-2, 0}, {-3, 1},
		{math.MinInt, 0}, {math.MinInt + 1, 1}, {math.MaxInt, 1}, {math.MaxInt - 1, 0},
	} {
		if got := Shard(c.key); got != c.want {
			t.Errorf("Shard(%d) = %d, want %d", c.key, got, c.want)
		}
	}
}

// P1.1
func TestOf(t *testing.T) {
	for _, c := range []struct{ node, want int }{
		{0, 0}, {1, 0}, {2, 0}, {3, 1}, {4, 1}, {5, 1},
		{6, 1}, {-1, 0}, {-3, 0}, {-4, 0}, {math.MinInt, 0}, {math.MaxInt, 1},
	} {
		if got := Of(c.node); got != c.want {
			t.Errorf("Of(%d) = %d, want %d", c.node, got, c.want)
		}
	}
}

// P1.2
func TestGoodOps(t *testing.T) {
	for _, l := range [][]api.Op{
		{read(0)},
		{read(7)},
		{write(0, 0)},
		{write(3, api.MaxValue)},
		{write(3, -api.MaxValue)},
		{add(7, api.MaxValue)},
		{add(7, -api.MaxValue)},
		{add(1, 5), read(0)},
		{read(7), write(5, 1), add(6, -1), read(0)},
	} {
		if !GoodOps(l) {
			t.Errorf("GoodOps(%v) is false", l)
		}
	}
}

// P1.2
func TestGoodOpsRefuses(t *testing.T) {
	for _, l := range [][]api.Op{
		nil,
		{},
		{read(0), read(1), read(2), read(3), read(4)},
		make([]api.Op, 1),
		{{Kind: 0, Key: 1}},
		{{Kind: 4, Key: 1}},
		{{Kind: -1, Key: 1}},
		{{Kind: math.MaxInt, Key: 1}},
		{read(-1)},
		{read(8)},
		{write(math.MinInt, 0)},
		{add(math.MaxInt, 0)},
		{{Kind: api.Read, Key: 1, N: 1}},
		{{Kind: api.Read, Key: 1, N: -1}},
		{write(1, api.MaxValue+1)},
		{write(1, -api.MaxValue-1)},
		{write(1, math.MinInt)},
		{add(1, api.MaxValue+1)},
		{add(1, -api.MaxValue-1)},
		{add(1, math.MaxInt)},
		{read(1), read(1)},
		{read(1), write(2, 0), add(1, 0)},
		{write(0, 0), read(1), read(2), add(0, 0)},
		{read(1), read(2), read(3), read(8)},
	} {
		if GoodOps(l) {
			t.Errorf("GoodOps(%v) is true", l)
		}
	}
}

// P1.3
func TestTouches(t *testing.T) {
	for _, c := range []struct {
		l     []api.Op
		shard int
		want  bool
	}{
		{nil, 0, false},
		{[]api.Op{}, 1, false},
		{[]api.Op{read(2)}, 0, true},
		{[]api.Op{read(2)}, 1, false},
		{[]api.Op{write(7, 1)}, 1, true},
		{[]api.Op{write(7, 1)}, 0, false},
		{[]api.Op{read(1), add(3, 1), read(0)}, 0, true},
		{[]api.Op{read(0), add(2, 1), read(5)}, 1, true},
		{[]api.Op{read(0), read(1)}, 2, false},
		{[]api.Op{read(0), read(1)}, -1, false},
		{[]api.Op{read(0), read(-1)}, math.MinInt, false},
		{[]api.Op{read(-1)}, 1, true},
		{[]api.Op{read(8)}, 0, true},
	} {
		if got := Touches(c.l, c.shard); got != c.want {
			t.Errorf("Touches(%v, %d) = %v", c.l, c.shard, got)
		}
	}
}

// P1.3
func TestConflictOfOnes(t *testing.T) {
	for _, a := range []int{api.Read, api.Write, api.Add} {
		for _, b := range []int{api.Read, api.Write, api.Add} {
			for ka := range api.Keys {
				for kb := range api.Keys {
					for shard := -1; shard <= api.Shards; shard++ {
						want := ka == kb && ka%2 == shard && (a != api.Read || b != api.Read)
						x, y := []api.Op{{Kind: a, Key: ka}}, []api.Op{{Kind: b, Key: kb}}
						if got := Conflict(x, y, shard); got != want {
							t.Errorf("Conflict(%v, %v, %d) = %v", x, y, shard, got)
						}
					}
				}
			}
		}
	}
}

// P1.3
func TestConflict(t *testing.T) {
	for _, c := range []struct {
		a, b []api.Op
		want [api.Shards]bool
	}{
		{nil, nil, [api.Shards]bool{}},
		{nil, []api.Op{write(0, 1), write(1, 1)}, [api.Shards]bool{}},
		{[]api.Op{write(0, 1), write(1, 1)}, nil, [api.Shards]bool{}},
		{[]api.Op{write(0, 1)}, []api.Op{write(2, 1)}, [api.Shards]bool{}},
		{[]api.Op{read(0), read(1)}, []api.Op{read(1), read(0)}, [api.Shards]bool{}},
		{[]api.Op{write(0, 1), read(1)}, []api.Op{read(1), read(2)}, [api.Shards]bool{}},
		{[]api.Op{read(3), read(0)}, []api.Op{read(3), add(0, 1)}, [api.Shards]bool{true, false}},
		{[]api.Op{read(4), add(5, 1)}, []api.Op{read(2), read(4), read(5)}, [api.Shards]bool{false, true}},
		{[]api.Op{write(6, 1), write(7, 1)}, []api.Op{read(7), read(6)}, [api.Shards]bool{true, true}},
		{[]api.Op{read(1), read(3), add(5, 2)}, []api.Op{read(7), read(5)}, [api.Shards]bool{false, true}},
		{[]api.Op{{Kind: 9, Key: 2}}, []api.Op{read(2)}, [api.Shards]bool{true, false}},
		{[]api.Op{write(-1, 1)}, []api.Op{read(-1)}, [api.Shards]bool{false, true}},
	} {
		for shard, want := range c.want {
			if got := Conflict(c.a, c.b, shard); got != want {
				t.Errorf("Conflict(%v, %v, %d) = %v", c.a, c.b, shard, got)
			}
			if got := Conflict(c.b, c.a, shard); got != want {
				t.Errorf("Conflict(%v, %v, %d) = %v", c.b, c.a, shard, got)
			}
		}
		if Conflict(c.a, c.b, -1) || Conflict(c.a, c.b, api.Shards) {
			t.Errorf("Conflict(%v, %v) at a shard that there is not", c.a, c.b)
		}
	}
}

// P1.4
func TestDo(t *testing.T) {
	const most = api.MaxValue
	for _, c := range []struct {
		v    int
		o    api.Op
		want int
	}{
		{5, read(1), 5},
		{5, api.Op{Kind: api.Read, N: 9}, 5},
		{most + 1, read(1), most},
		{-most - 1, read(1), -most},
		{math.MinInt, read(1), -most},
		{5, write(1, -2), -2},
		{5, write(1, 0), 0},
		{5, write(1, most), most},
		{5, write(1, most+1), most},
		{5, write(1, -most-1), -most},
		{math.MaxInt, write(1, math.MinInt), -most},
		{5, add(1, -7), -2},
		{5, add(1, 7), 12},
		{most, add(1, 1), most},
		{most - 1, add(1, 1), most},
		{-most, add(1, -1), -most},
		{-most, add(1, most), 0},
		{most + 10, add(1, -3), most - 3},
		{-most - 10, add(1, 3), 3 - most},
		{3, add(1, most+10), most},
		{-3, add(1, most+10), most - 3},
		{3, add(1, -most-10), 3 - most},
		{math.MaxInt, add(1, math.MaxInt), most},
		{math.MinInt, add(1, math.MinInt), -most},
		{math.MinInt, add(1, math.MaxInt), 0},
		{5, api.Op{Kind: 0, N: 9}, 5},
		{5, api.Op{Kind: 4, N: 9}, 5},
		{math.MaxInt, api.Op{Kind: -1, N: 9}, most},
	} {
		if got := Do(c.v, c.o); got != c.want {
			t.Errorf("Do(%d, %v) = %d, want %d", c.v, c.o, got, c.want)
		}
	}
}

// allTxns is every transaction there is, rising.
func allTxns() []int {
	var l []int
	for n := range api.MaxTxns {
		l = append(l, n)
	}
	return l
}

// P1.5
func TestRising(t *testing.T) {
	for _, l := range [][]int{nil, {}, {0}, {31}, {0, 1}, {0, 31}, {3, 7, 30}, allTxns()} {
		if !Rising(l) {
			t.Errorf("Rising(%v) is false", l)
		}
	}
	for _, l := range [][]int{
		{-1}, {32}, {math.MinInt}, {math.MaxInt},
		{-1, 0}, {30, 32}, {0, 0}, {31, 31}, {1, 0},
		{1, 2, 2}, {1, 3, 2}, {5, 6, 0}, append(allTxns(), 32),
	} {
		if Rising(l) {
			t.Errorf("Rising(%v) is true", l)
		}
	}
}

// P1.5
func TestUnion(t *testing.T) {
	for _, c := range []struct{ a, b, want []int }{
		{nil, nil, nil},
		{[]int{}, nil, nil},
		{[]int{1, 3}, nil, []int{1, 3}},
		{nil, []int{1, 3}, []int{1, 3}},
		{[]int{1, 3}, []int{0, 2, 31}, []int{0, 1, 2, 3, 31}},
		{[]int{1, 3}, []int{1, 3}, []int{1, 3}},
		{[]int{9, 2, 9}, []int{2, 0, 0}, []int{0, 2, 9}},
		{[]int{-1, 32, 5}, []int{math.MinInt, math.MaxInt}, []int{5}},
		{[]int{-1}, []int{32}, nil},
		{allTxns(), allTxns(), allTxns()},
	} {
		if got := Union(c.a, c.b); !slices.Equal(got, c.want) {
			t.Errorf("Union(%v, %v) = %v, want %v", c.a, c.b, got, c.want)
		}
	}
}

// What holds everywhere: lists that are handed in stay as they are, with their spare room; an answer is new memory.
func TestUnionLeavesListsAlone(t *testing.T) {
	room := []int{9, 2, 7, 7}
	other := []int{4, 1, 7, 7}
	all := Union(room[:2], other[:2])
	for n := range all {
		all[n] = -5
	}
	if !slices.Equal(room, []int{9, 2, 7, 7}) || !slices.Equal(other, []int{4, 1, 7, 7}) {
		t.Errorf("changed: %v, %v", room, other)
	}
	rising := []int{1, 2, 3}
	Union(rising, nil)[0] = 0
	Union(nil, rising)[0] = 0
	if rising[0] != 1 {
		t.Error("the answer shares memory with a list that was handed in")
	}
}

// What holds everywhere: lists that are handed in stay as they are, with their spare room.
func TestOpsAreLeftAlone(t *testing.T) {
	a := []api.Op{write(3, 1), read(0), add(2, 4), read(5)}
	b := []api.Op{read(3), write(1, 7), read(6), read(2)}
	keepA, keepB := slices.Clone(a), slices.Clone(b)
	GoodOps(a[:2])
	Touches(a[:2], 0)
	Conflict(a[:2], b[:2], 0)
	Conflict(a[:2], b[:2], 1)
	if !slices.Equal(a, keepA) || !slices.Equal(b, keepB) {
		t.Errorf("changed: %v, %v", a, b)
	}
}
