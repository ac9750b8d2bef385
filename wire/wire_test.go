package wire

import (
	"math"
	"reflect"
	"slices"
	"strings"
	"testing"

	"januspost/api"
)

func read(key int) api.Op     { return api.Op{Kind: api.Read, Key: key} }
func write(key, n int) api.Op { return api.Op{Kind: api.Write, Key: key, N: n} }
func add(key, n int) api.Op   { return api.Op{Kind: api.Add, Key: key, N: n} }

// upTo is the transactions below n but one of them.
func upTo(n, but int) []int {
	var l []int
	for i := range n {
		if i != but {
			l = append(l, i)
		}
	}
	return l
}

// cases are good frames of each kind, with their bytes, up to the bounds.
func cases() []struct {
	f api.Frame
	s string
} {
	zero := "\x80\x00\x00\x00\x00\x00"
	most := "\x81\x00\x00\x00\x00\x00"
	least := "\x7f\x00\x00\x00\x00\x00"
	return []struct {
		f api.Frame
		s string
	}{
		{api.Frame{Kind: api.Ask, Ops: []api.Op{read(0)}},
			"\x01\x00\x00" + "\x01" + "\x01\x00" + zero + "\x00\x00"},
		{api.Frame{Kind: api.Ask, Node: 5, Id: 31, Ops: []api.Op{write(7, api.MaxValue), add(0, -api.MaxValue), read(3), add(6, 0x0102030405)}},
			"\x01\x05\x1f" + "\x04" + "\x02\x07" + most + "\x03\x00" + least + "\x01\x03" + zero + "\x03\x06\x80\x01\x02\x03\x04\x05" + "\x00\x00"},
		{api.Frame{Kind: api.Told, Node: 3},
			"\x02\x03\x00\x00\x00\x00"},
		{api.Frame{Kind: api.Told, Node: 2, Id: 4, Deps: []int{0, 3, 5, 31}},
			"\x02\x02\x04\x00" + "\x04\x00\x03\x05\x1f" + "\x00"},
		{api.Frame{Kind: api.Told, Node: 2, Id: 4, Deps: upTo(32, 4)},
			"\x02\x02\x04\x00" + "\x1f\x00\x01\x02\x03\x05\x06\x07\x08\x09\x0a\x0b\x0c\x0d\x0e\x0f\x10\x11\x12\x13\x14\x15\x16\x17\x18\x19\x1a\x1b\x1c\x1d\x1e\x1f" + "\x00"},
		{api.Frame{Kind: api.Commit, Node: 1, Id: 9, Ops: []api.Op{write(1, -1)}},
			"\x03\x01\x09" + "\x01\x02\x01\x7f\xff\xff\xff\xff\xff" + "\x00\x00"},
		{api.Frame{Kind: api.Commit, Node: 4, Id: 0, Ops: []api.Op{add(2, 1), read(1)}, Deps: []int{1, 30}},
			"\x03\x04\x00" + "\x02\x03\x02\x80\x00\x00\x00\x00\x01\x01\x01" + zero + "\x02\x01\x1e" + "\x00"},
		{api.Frame{Kind: api.Known, Node: 5, Id: 31},
			"\x04\x05\x1f\x00\x00\x00"},
		{api.Frame{Kind: api.Done, Node: 1, Id: 1},
			"\x05\x01\x01\x00\x00\x00"},
		{api.Frame{Kind: api.Done, Node: 0, Id: 7, At: []int{0, 1, 2, 3}, Values: []int{api.MaxValue, -api.MaxValue, 0, -2}},
			"\x05\x00\x07\x00\x00" + "\x04\x00" + most + "\x01" + least + "\x02" + zero + "\x03\x7f\xff\xff\xff\xff\xfe"},
		{api.Frame{Kind: api.Done, Node: 5, Id: 2, At: []int{3}, Values: []int{258}},
			"\x05\x05\x02\x00\x00" + "\x01\x03\x80\x00\x00\x00\x01\x02"},
	}
}

// same is whether frames are the same, whether lists without elements are nil or not.
func same(a, b api.Frame) bool {
	return a.Kind == b.Kind && a.Node == b.Node && a.Id == b.Id &&
		slices.Equal(a.Ops, b.Ops) && slices.Equal(a.Deps, b.Deps) &&
		slices.Equal(a.At, b.At) && slices.Equal(a.Values, b.Values)
}

// P2.1
func TestGood(t *testing.T) {
	for _, c := range cases() {
		if e := Good(c.f); e != api.OK {
			t.Errorf("Good(%+v) = %d", c.f, e)
		}
	}
}

// bad are frames that are none, with why.
func bad() []struct {
	why  string
	f    api.Frame
	want api.Errno
} {
	one := []api.Op{read(0)}
	five := []api.Op{read(0), read(1), read(2), read(3), read(4)}
	return []struct {
		why  string
		f    api.Frame
		want api.Errno
	}{
		{"kind 0", api.Frame{}, api.ErrKind},
		{"kind 6", api.Frame{Kind: 6}, api.ErrKind},
		{"kind below 0", api.Frame{Kind: -1}, api.ErrKind},
		{"kind that is one by its last byte", api.Frame{Kind: 256 + api.Known}, api.ErrKind},
		{"least kind", api.Frame{Kind: math.MinInt}, api.ErrKind},
		{"greatest kind", api.Frame{Kind: math.MaxInt}, api.ErrKind},
		{"kind ahead of node", api.Frame{Kind: 6, Node: 6}, api.ErrKind},
		{"kind ahead of id", api.Frame{Kind: 0, Id: -1}, api.ErrKind},
		{"kind ahead of form", api.Frame{Kind: 0, At: []int{9}}, api.ErrKind},

		{"node 6", api.Frame{Kind: api.Known, Node: 6}, api.ErrRange},
		{"node below 0", api.Frame{Kind: api.Known, Node: -1}, api.ErrRange},
		{"least node", api.Frame{Kind: api.Told, Node: math.MinInt}, api.ErrRange},
		{"greatest node", api.Frame{Kind: api.Done, Node: math.MaxInt}, api.ErrRange},
		{"id 32", api.Frame{Kind: api.Known, Id: 32}, api.ErrRange},
		{"id below 0", api.Frame{Kind: api.Known, Id: -1}, api.ErrRange},
		{"least id", api.Frame{Kind: api.Told, Id: math.MinInt}, api.ErrRange},
		{"greatest id", api.Frame{Kind: api.Done, Id: math.MaxInt}, api.ErrRange},
		{"node ahead of form", api.Frame{Kind: api.Ask, Node: 6}, api.ErrRange},
		{"id ahead of form", api.Frame{Kind: api.Commit, Id: 32, Deps: []int{32}}, api.ErrRange},

		{"Ask without operations", api.Frame{Kind: api.Ask}, api.ErrForm},
		{"Ask of five operations", api.Frame{Kind: api.Ask, Ops: five}, api.ErrForm},
		{"Ask of a key twice", api.Frame{Kind: api.Ask, Ops: []api.Op{read(1), write(1, 2)}}, api.ErrForm},
		{"Ask of an operation of no kind", api.Frame{Kind: api.Ask, Ops: []api.Op{{Key: 1}}}, api.ErrForm},
		{"Ask of a number that is no value", api.Frame{Kind: api.Ask, Ops: []api.Op{write(1, api.MaxValue+1)}}, api.ErrForm},
		{"Commit without operations", api.Frame{Kind: api.Commit, Deps: []int{1}}, api.ErrForm},
		{"Commit of no key", api.Frame{Kind: api.Commit, Ops: []api.Op{read(8)}}, api.ErrForm},
		{"Told with operations", api.Frame{Kind: api.Told, Ops: one}, api.ErrForm},
		{"Known with operations", api.Frame{Kind: api.Known, Ops: one}, api.ErrForm},
		{"Done with operations", api.Frame{Kind: api.Done, Ops: one}, api.ErrForm},

		{"Told of itself", api.Frame{Kind: api.Told, Id: 2, Deps: []int{1, 2, 3}}, api.ErrForm},
		{"Told that falls", api.Frame{Kind: api.Told, Id: 2, Deps: []int{3, 1}}, api.ErrForm},
		{"Told of one twice", api.Frame{Kind: api.Told, Id: 2, Deps: []int{1, 1}}, api.ErrForm},
		{"Told of transaction 32", api.Frame{Kind: api.Told, Id: 2, Deps: []int{32}}, api.ErrForm},
		{"Told of transaction -1", api.Frame{Kind: api.Told, Id: 2, Deps: []int{-1}}, api.ErrForm},
		{"Commit of itself", api.Frame{Kind: api.Commit, Id: 0, Ops: one, Deps: []int{0}}, api.ErrForm},
		{"Commit that falls", api.Frame{Kind: api.Commit, Id: 0, Ops: one, Deps: []int{2, 1}}, api.ErrForm},
		{"Ask with Deps", api.Frame{Kind: api.Ask, Ops: one, Deps: []int{1}}, api.ErrForm},
		{"Known with Deps", api.Frame{Kind: api.Known, Deps: []int{1}}, api.ErrForm},
		{"Done with Deps", api.Frame{Kind: api.Done, Deps: []int{1}}, api.ErrForm},

		{"Ask with At", api.Frame{Kind: api.Ask, Ops: one, At: []int{0}, Values: []int{0}}, api.ErrForm},
		{"Told with At", api.Frame{Kind: api.Told, At: []int{0}, Values: []int{0}}, api.ErrForm},
		{"Commit with At", api.Frame{Kind: api.Commit, Ops: one, At: []int{0}, Values: []int{0}}, api.ErrForm},
		{"Known with At", api.Frame{Kind: api.Known, At: []int{0}, Values: []int{0}}, api.ErrForm},
		{"Known with Values alone", api.Frame{Kind: api.Known, Values: []int{0}}, api.ErrForm},
		{"Done with Values alone", api.Frame{Kind: api.Done, Values: []int{0}}, api.ErrForm},
		{"Done with At alone", api.Frame{Kind: api.Done, At: []int{0}}, api.ErrForm},
		{"Done with a value too few", api.Frame{Kind: api.Done, At: []int{0, 1}, Values: []int{0}}, api.ErrForm},
		{"Done with a value too many", api.Frame{Kind: api.Done, At: []int{0}, Values: []int{0, 1}}, api.ErrForm},
		{"Done at 4", api.Frame{Kind: api.Done, At: []int{4}, Values: []int{0}}, api.ErrForm},
		{"Done at -1", api.Frame{Kind: api.Done, At: []int{-1}, Values: []int{0}}, api.ErrForm},
		{"Done at one twice", api.Frame{Kind: api.Done, At: []int{1, 1}, Values: []int{0, 0}}, api.ErrForm},
		{"Done that falls", api.Frame{Kind: api.Done, At: []int{2, 1}, Values: []int{0, 0}}, api.ErrForm},
		{"Done at least and greatest", api.Frame{Kind: api.Done, At: []int{math.MinInt, math.MaxInt}, Values: []int{0, 0}}, api.ErrForm},
		{"Done above the values", api.Frame{Kind: api.Done, At: []int{0}, Values: []int{api.MaxValue + 1}}, api.ErrForm},
		{"Done below the values", api.Frame{Kind: api.Done, At: []int{0}, Values: []int{-api.MaxValue - 1}}, api.ErrForm},
		{"Done of no value behind one", api.Frame{Kind: api.Done, At: []int{0, 1}, Values: []int{0, math.MinInt}}, api.ErrForm},
	}
}

// P2.1
func TestGoodRefuses(t *testing.T) {
	for _, c := range bad() {
		if e := Good(c.f); e != c.want {
			t.Errorf("%s: Good = %d, want %d", c.why, e, c.want)
		}
	}
}

// P2.1
func TestGoodEmptyLists(t *testing.T) {
	f := api.Frame{Kind: api.Known, Ops: []api.Op{}, Deps: []int{}, At: []int{}, Values: []int{}}
	if e := Good(f); e != api.OK {
		t.Errorf("Good of lists without elements = %d", e)
	}
	if s, e := Encode(f); s != "\x04\x00\x00\x00\x00\x00" || e != api.OK {
		t.Errorf("Encode of lists without elements = %q, %d", s, e)
	}
}

// P2.2
func TestEncode(t *testing.T) {
	for _, c := range cases() {
		if s, e := Encode(c.f); s != c.s || e != api.OK {
			t.Errorf("Encode(%+v) = %q, %d, want %q", c.f, s, e, c.s)
		}
	}
}

// P2.2
func TestEncodeRefuses(t *testing.T) {
	for _, c := range bad() {
		if s, e := Encode(c.f); s != "" || e != c.want {
			t.Errorf("%s: Encode = %q, %d, want %d", c.why, s, e, c.want)
		}
	}
}

// P2.2
func TestEncodeLeavesLists(t *testing.T) {
	ops := []api.Op{write(1, 2), read(4), add(7, 7)}
	deps := []int{1, 2, 3}
	f := api.Frame{Kind: api.Commit, Ops: ops[:2], Deps: deps[:2]}
	if _, e := Encode(f); e != api.OK {
		t.Fatalf("Encode = %d", e)
	}
	if !slices.Equal(ops, []api.Op{write(1, 2), read(4), add(7, 7)}) || !slices.Equal(deps, []int{1, 2, 3}) {
		t.Errorf("lists are changed: %v %v", ops, deps)
	}
}

// P2.2: a frame of the greatest length is still one that a log takes.
func TestEncodeWithinMaxFrame(t *testing.T) {
	f := api.Frame{Kind: api.Commit, Id: 31, Deps: upTo(32, 31), Ops: []api.Op{read(0), read(1), read(2), read(3)}}
	s, e := Encode(f)
	if e != api.OK || len(s) != 4+4*8+1+31+1 || len(s) > api.MaxFrame {
		t.Errorf("%d bytes, %d", len(s), e)
	}
}

// P2.3
func TestDecode(t *testing.T) {
	for _, c := range cases() {
		if f, e := Decode(c.s); !same(f, c.f) || e != api.OK {
			t.Errorf("Decode(%q) = %+v, %d, want %+v", c.s, f, e, c.f)
		}
	}
}

// refused is whether a text is no frame, and nothing of one is answered.
func refused(s string) bool {
	f, e := Decode(s)
	return e == api.ErrForm && reflect.ValueOf(f).IsZero()
}

// P2.3
func TestDecodeRefusesCutAndMore(t *testing.T) {
	for _, c := range cases() {
		for n := range len(c.s) {
			if !refused(c.s[:n]) {
				t.Errorf("Decode takes %q, cut to %d bytes", c.s, n)
			}
			if n > 0 && !refused(c.s[n:]) {
				t.Errorf("Decode takes %q, without %d bytes", c.s, n)
			}
		}
		for _, more := range []string{"\x00", "x", c.s} {
			if !refused(c.s + more) {
				t.Errorf("Decode takes %q behind %q", more, c.s)
			}
		}
	}
}

// P2.3: what is of a form that can be read is refused all the same if the frame is none, whatever Good's error is.
func TestDecodeRefuses(t *testing.T) {
	zero := "\x80\x00\x00\x00\x00\x00"
	for _, s := range []string{
		"\x00\x00\x00\x00\x00\x00",
		"\x06\x00\x00\x00\x00\x00",
		"\xff\x00\x00\x00\x00\x00",
		"\x04\x06\x00\x00\x00\x00",
		"\x04\xff\x00\x00\x00\x00",
		"\x04\x00\x20\x00\x00\x00",
		"\x04\x00\xff\x00\x00\x00",
		"\x01\x00\x00\x00\x00\x00",
		"\x01\x00\x00\x01\x00\x00" + zero + "\x00\x00",
		"\x01\x00\x00\x01\x01\x08" + zero + "\x00\x00",
		"\x01\x00\x00\x01\x01\x00\x80\x00\x00\x00\x00\x01\x00\x00",
		"\x01\x00\x00\x01\x02\x00\x81\x00\x00\x00\x00\x01\x00\x00",
		"\x01\x00\x00\x01\x02\x00\x7e\xff\xff\xff\xff\xff\x00\x00",
		"\x01\x00\x00\x01\x02\x00\x00\x00\x00\x00\x00\x00\x00\x00",
		"\x01\x00\x00\x01\x02\x00\xff\xff\xff\xff\xff\xff\x00\x00",
		"\x01\x00\x00\x05" + strings.Repeat("\x01\x00"+zero, 5) + "\x00\x00",
		"\x02\x00\x02\x00\x01\x02\x00",
		"\x02\x00\x02\x00\x02\x03\x01\x00",
		"\x02\x00\x02\x00\x01\x20\x00",
		"\x04\x00\x00\x00\x01\x01\x00",
		"\x04\x00\x00\x00\x00\x01\x00" + zero,
		"\x05\x00\x00\x00\x00\x01\x04" + zero,
		"\x05\x00\x00\x00\x00\x02\x01" + zero + "\x01" + zero,
		"\x05\x00\x00\x00\x00\x01\x00\x81\x00\x00\x00\x00\x01",
		"\x05\x00\x00\x00\x00\x01\x00\x7e\xff\xff\xff\xff\xff",
		"\x04\x00\x00\xff",
		"\x04\x00\x00\x00\xff",
		"\x04\x00\x00\x00\x00\xff",
		strings.Repeat("\xff", 5000),
		strings.Repeat("\x00", 5000),
		"januspost",
	} {
		if !refused(s) {
			t.Errorf("Decode takes %q", s)
		}
	}
}

// P2.3: whatever byte is changed, either there is no such frame, or it is one that has just these bytes.
func TestDecodeOfChangedBytes(t *testing.T) {
	taken := 0
	for _, c := range cases() {
		b := []byte(c.s)
		for i := range b {
			was := b[i]
			for n := range 256 {
				b[i] = byte(n)
				f, e := Decode(string(b))
				if e != api.OK {
					if !refused(string(b)) {
						t.Fatalf("%q: %+v, %d", b, f, e)
					}
					continue
				}
				taken++
				if s, e := Encode(f); s != string(b) || e != api.OK {
					t.Fatalf("%q is decoded to %+v, which has %q, %d", b, f, s, e)
				}
			}
			b[i] = was
		}
	}
	if taken < 1000 {
		t.Errorf("only %d changed texts are frames", taken)
	}
}

// P2.2, P2.3: every N that is a value comes back, whichever of its bytes it fills.
func TestValuesThereAndBack(t *testing.T) {
	for bit := range 41 {
		for _, n := range []int{1 << bit, 1<<bit - 1, -1 << bit, 1 - 1<<bit} {
			for _, f := range []api.Frame{
				{Kind: api.Commit, Ops: []api.Op{add(5, n)}},
				{Kind: api.Done, At: []int{2}, Values: []int{n}},
			} {
				s, e := Encode(f)
				if e != api.OK {
					t.Fatalf("Encode(%+v) = %d", f, e)
				}
				if g, e := Decode(s); !same(f, g) || e != api.OK {
					t.Errorf("%+v comes back as %+v, %d", f, g, e)
				}
			}
		}
	}
}

// P2.3
func FuzzDecode(f *testing.F) {
	for _, c := range cases() {
		f.Add(c.s)
	}
	f.Fuzz(func(t *testing.T, s string) {
		g, e := Decode(s)
		if e != api.OK {
			if !refused(s) {
				t.Fatalf("Decode(%q) = %+v, %d", s, g, e)
			}
			return
		}
		if back, e := Encode(g); back != s || e != api.OK {
			t.Fatalf("%q is decoded to %+v, which has %q, %d", s, g, back, e)
		}
	})
}
