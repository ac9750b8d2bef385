package book

import (
	"math"
	"slices"
	"strings"
	"testing"

	"januspost/api"
)

// bytesOf is a text of n bytes, of which no two neighbours are the same.
func bytesOf(n int) string {
	b := make([]byte, n)
	for i := range b {
		b[i] = byte(i*7 + 1)
	}
	return string(b)
}

// logs are records, and the log that they make.
func logs() []struct {
	records []string
	log     string
} {
	return []struct {
		records []string
		log     string
	}{
		{nil, ""},
		{[]string{"a"}, "\x00\x01a"},
		{[]string{"\x00"}, "\x00\x01\x00"},
		{[]string{"one", "two!", "\xff\xfe"}, "\x00\x03one" + "\x00\x04two!" + "\x00\x02\xff\xfe"},
		{[]string{"same", "same"}, "\x00\x04same\x00\x04same"},
		{[]string{"\x00\x01a", "\x00\x00"}, "\x00\x03\x00\x01a" + "\x00\x02\x00\x00"},
		{[]string{bytesOf(255), bytesOf(256), bytesOf(257)}, "\x00\xff" + bytesOf(255) + "\x01\x00" + bytesOf(256) + "\x01\x01" + bytesOf(257)},
		{[]string{bytesOf(399), bytesOf(400), "z"}, "\x01\x8f" + bytesOf(399) + "\x01\x90" + bytesOf(400) + "\x00\x01z"},
	}
}

// P3.1
func TestWrite(t *testing.T) {
	for _, c := range logs() {
		log := ""
		for _, s := range c.records {
			next, e := Write(log, s)
			if e != api.OK {
				t.Fatalf("Write(%q, %q) = %d", log, s, e)
			}
			log = next
		}
		if log != c.log {
			t.Errorf("%q make the log %q, want %q", c.records, log, c.log)
		}
	}
}

// P3.1: what stands in the log already is of no account, whole records or not.
func TestWriteBehindAnything(t *testing.T) {
	for _, log := range []string{"x", "\x00", "\x00\x00", "\x00\x09cut", "\xff\xff\xff"} {
		if got, e := Write(log, "ab"); got != log+"\x00\x02ab" || e != api.OK {
			t.Errorf("Write(%q) = %q, %d", log, got, e)
		}
	}
}

// P3.1
func TestWriteUpToTheBound(t *testing.T) {
	for _, s := range []string{"a", "ab", bytesOf(256), bytesOf(api.MaxFrame)} {
		log := bytesOf(api.MaxLog - 2 - len(s))
		got, e := Write(log, s)
		if e != api.OK || len(got) != api.MaxLog || !strings.HasPrefix(got, log) || !strings.HasSuffix(got, s) {
			t.Errorf("%d bytes to the bound: %d bytes, %d", len(s), len(got), e)
		}
	}
}

// refused are logs and records that Write takes no record of, with why.
func refused() []struct {
	why    string
	log, s string
	want   api.Errno
} {
	full, over := bytesOf(api.MaxLog), bytesOf(api.MaxLog+1)
	most, long := bytesOf(api.MaxFrame), bytesOf(api.MaxFrame+1)
	return []struct {
		why    string
		log, s string
		want   api.Errno
	}{
		{"a log too long", over, "a", api.ErrRange},
		{"a log far too long", bytesOf(3 * api.MaxLog), "a", api.ErrRange},
		{"a log too long ahead of an empty record", over, "", api.ErrRange},
		{"a log too long ahead of a long record", over, long, api.ErrRange},

		{"an empty record", "\x00\x01a", "", api.ErrForm},
		{"an empty record in an empty log", "", "", api.ErrForm},
		{"a long record", "\x00\x01a", long, api.ErrForm},
		{"a record of 512 bytes", "", bytesOf(512), api.ErrForm},
		{"a record whose length begins anew in two bytes", "", bytesOf(1<<16 + 1), api.ErrForm},
		{"an empty record ahead of a full log", full, "", api.ErrForm},
		{"a long record ahead of a full log", full, long, api.ErrForm},

		{"a full log", full, "a", api.ErrFull},
		{"a log with a byte left", full[1:], "a", api.ErrFull},
		{"a log with room for the length alone", full[2:], "a", api.ErrFull},
		{"a log with a byte too few", full[api.MaxFrame+1:], most, api.ErrFull},
	}
}

// P3.1: with an error the log is as it was.
func TestWriteRefuses(t *testing.T) {
	for _, c := range refused() {
		if got, e := Write(c.log, c.s); got != c.log || e != c.want {
			t.Errorf("%s: Write = %d bytes, %d, want %d bytes, %d", c.why, len(got), e, len(c.log), c.want)
		}
	}
}

// P3.2
func TestRead(t *testing.T) {
	for _, c := range logs() {
		if l, n := Read(c.log); !slices.Equal(l, c.records) || n != len(c.log) {
			t.Errorf("Read(%q) = %q, %d, want %q, %d", c.log, l, n, c.records, len(c.log))
		}
	}
}

// wholeIn is how many records are whole in the first n bytes of their log, and how many bytes they take.
func wholeIn(records []string, n int) (int, int) {
	size := 0
	for i, s := range records {
		if size+2+len(s) > n {
			return i, size
		}
		size += 2 + len(s)
	}
	return len(records), size
}

// P3.2: wherever a log is cut off, what is whole is read, and no more.
func TestReadOfCutLogs(t *testing.T) {
	for _, c := range logs() {
		for n := range len(c.log) {
			k, size := wholeIn(c.records, n)
			if l, got := Read(c.log[:n]); !slices.Equal(l, c.records[:k]) || got != size {
				t.Errorf("Read(%q) = %q, %d, want %d of them, %d", c.log[:n], l, got, k, size)
			}
		}
	}
}

// P3.2: what can be no record ends the reading, even if whole records stand behind it.
func TestReadEndsAtNoRecord(t *testing.T) {
	for _, bad := range []string{
		"\x00\x00",
		"\x01\x91" + bytesOf(401),
		"\x02\x00" + bytesOf(512),
		"\xff\xff" + bytesOf(65535),
		"\x80\x01" + bytesOf(32769),
	} {
		for _, ahead := range logs() {
			for _, behind := range []string{"", "\x00\x01a"} {
				l, n := Read(ahead.log + bad + behind)
				if !slices.Equal(l, ahead.records) || n != len(ahead.log) {
					t.Errorf("%q, %d ahead of %q", l, n, bad[:2])
				}
			}
		}
	}
}

// P3.2: no bound is set to the log that is read.
func TestReadOfLongLogs(t *testing.T) {
	log := strings.Repeat("\x00\x03one", api.MaxLog)
	if l, n := Read(log); len(l) != api.MaxLog || l[api.MaxLog-1] != "one" || n != len(log) {
		t.Errorf("%d records, %d bytes", len(l), n)
	}
}

// P3.3
func TestTear(t *testing.T) {
	for _, c := range logs() {
		for _, s := range []string{"a", "three", bytesOf(300)} {
			written, e := Write(c.log, s)
			if e != api.OK {
				t.Fatalf("Write = %d", e)
			}
			for n := range len(s) + 3 {
				if got := Tear(c.log, s, n); got != written[:len(c.log)+n] {
					t.Errorf("Tear(%q, %q, %d) = %q", c.log, s, n, got)
				}
			}
			for _, n := range []int{-1, -2, -len(c.log) - 1, math.MinInt} {
				if got := Tear(c.log, s, n); got != c.log {
					t.Errorf("Tear(%q, %q, %d) = %q", c.log, s, n, got)
				}
			}
			for _, n := range []int{len(s) + 3, len(written) + 1, math.MaxInt} {
				if got := Tear(c.log, s, n); got != written {
					t.Errorf("Tear(%q, %q, %d) = %q", c.log, s, n, got)
				}
			}
		}
	}
}

// P3.2, P3.3: a record that is not whole was never there.
func TestReadOfTornLogs(t *testing.T) {
	for _, c := range logs() {
		for n := range 7 {
			l, k := Read(Tear(c.log, "three", n))
			if !slices.Equal(l, c.records) || k != len(c.log) {
				t.Errorf("torn at %d: %q, %d", n, l, k)
			}
		}
		l, k := Read(Tear(c.log, "three", 7))
		if !slices.Equal(l, append(slices.Clone(c.records), "three")) || k != len(c.log)+7 {
			t.Errorf("written whole: %q, %d", l, k)
		}
	}
}

// P3.3
func TestTearWhereWriteRefuses(t *testing.T) {
	for _, c := range refused() {
		for _, n := range []int{math.MinInt, -1, 0, 1, 2, 3, 500, math.MaxInt} {
			if got := Tear(c.log, c.s, n); got != c.log {
				t.Errorf("%s: Tear at %d = %d bytes, want %d", c.why, n, len(got), len(c.log))
			}
		}
	}
}

// P3.1, P3.2: what is read of any text makes, written anew, just the bytes that were read.
func FuzzRead(f *testing.F) {
	for _, c := range logs() {
		f.Add(c.log, "a")
	}
	f.Add("\x00\x01a\x00\x00", "\x00")
	f.Fuzz(func(t *testing.T, log, s string) {
		records, n := Read(log)
		if n < 0 || n > len(log) {
			t.Fatalf("%d of %d bytes", n, len(log))
		}
		if n > api.MaxLog {
			return
		}
		again := ""
		for _, r := range records {
			next, e := Write(again, r)
			if e != api.OK {
				t.Fatalf("Write(%q, %q) = %d", again, r, e)
			}
			again = next
		}
		if again != log[:n] {
			t.Fatalf("%q is read as %q, which make %q", log[:n], records, again)
		}
		next, e := Write(again, s)
		if l, k := Read(next); e == api.OK && (len(l) != len(records)+1 || l[len(l)-1] != s || k != len(next)) {
			t.Fatalf("%q behind %q is read as %q, %d", s, again, l, k)
		}
	})
}
