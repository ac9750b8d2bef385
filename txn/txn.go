// Package txn: see ../../shared/doc/01-txn.md.
package txn

import "januspost/api"

// Shard is the shard of a key; a number that is no key has one too.
func Shard(key int) int {
	// The rest of a negative odd number is -1, so it is held against 0 rather than answered.
	if key%api.Shards == 0 {
		return 0
	}
	return 1
}

// Of is the shard of a node; a number that is no node has one too.
func Of(node int) int {
	if node < api.Copies {
		return 0
	}
	return 1
}

// GoodOps is whether these are a transaction's: one at least, no key twice.
func GoodOps(l []api.Op) bool {
	if len(l) < 1 || len(l) > api.MaxOps {
		return false
	}
	var seen [api.Keys]bool
	for _, o := range l {
		if !goodOp(o) || seen[o.Key] {
			return false
		}
		seen[o.Key] = true
	}
	return true
}

// goodOp is whether an operation may stand in a transaction, whatever stands beside it.
func goodOp(o api.Op) bool {
	if o.Key < 0 || o.Key >= api.Keys {
		return false
	}
	switch o.Kind {
	case api.Read:
		return o.N == 0
	case api.Write, api.Add:
		return o.N == nearest(o.N)
	}
	return false
}

// Touches is whether operations are of a shard.
func Touches(l []api.Op, shard int) bool {
	for _, o := range l {
		if Shard(o.Key) == shard {
			return true
		}
	}
	return false
}

// Conflict is whether operations are in the way of others, at a shard: they have a key of it in common, that one of them changes.
func Conflict(a, b []api.Op, shard int) bool {
	for _, o := range a {
		if Shard(o.Key) == shard && meets(o, b) {
			return true
		}
	}
	return false
}

// meets is whether an operation is in the way of one of these: two that only read never are.
func meets(o api.Op, l []api.Op) bool {
	for _, p := range l {
		if o.Key == p.Key && (o.Kind != api.Read || p.Kind != api.Read) {
			return true
		}
	}
	return false
}

// Do is a value behind an operation.
func Do(v int, o api.Op) int {
	switch o.Kind {
	case api.Write:
		return nearest(o.N)
	case api.Add:
		// Both are brought near first, so that their sum can't wrap round.
		return nearest(nearest(v) + nearest(o.N))
	}
	return nearest(v)
}

// nearest is the value that lies nearest to a number.
func nearest(n int) int {
	return min(max(n, -api.MaxValue), api.MaxValue)
}

// Rising is whether numbers of transactions rise, each once.
func Rising(l []int) bool {
	last := -1
	for _, n := range l {
		if n <= last || n >= api.MaxTxns {
			return false
		}
		last = n
	}
	return true
}

// Union is the transactions that are in one of two lists, rising, however the lists lie.
func Union(a, b []int) []int {
	var set [api.MaxTxns]bool
	include(&set, a)
	include(&set, b)
	var all []int
	for n, in := range set {
		if in {
			all = append(all, n)
		}
	}
	return all
}

// include puts the transactions of a list into a set; numbers of none have no place there.
func include(set *[api.MaxTxns]bool, l []int) {
	for _, n := range l {
		if n >= 0 && n < api.MaxTxns {
			set[n] = true
		}
	}
}
