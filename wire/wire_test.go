package wire_test

import (
	"bytes"
	"encoding/binary"
	"math"
	"math/rand"
	"slices"
	"strings"
	"testing"

	"dray/api"
	"dray/wire"
)

const (
	greatest = math.MaxInt
	least    = math.MinInt
)

// numbers holds the encodings of ordinary numbers and of those at which the count of their bytes changes.
var numbers = []struct {
	n int
	b string
}{
	{0, "\x00"}, {-1, "\x01"}, {1, "\x02"}, {-2, "\x03"}, {2, "\x04"}, {3, "\x06"}, {-3, "\x05"},
	{63, "\x7e"}, {-64, "\x7f"}, {64, "\x80\x01"}, {-65, "\x81\x01"}, {-300, "\xd7\x04"}, {300, "\xd8\x04"},
	{1<<13 - 1, "\xfe\x7f"}, {-1 << 13, "\xff\x7f"}, {1 << 13, "\x80\x80\x01"}, {-1<<13 - 1, "\x81\x80\x01"},
	{1<<20 - 1, "\xfe\xff\x7f"}, {-1 << 20, "\xff\xff\x7f"}, {1 << 20, "\x80\x80\x80\x01"}, {-1<<20 - 1, "\x81\x80\x80\x01"},
	{1<<27 - 1, "\xfe\xff\xff\x7f"}, {-1 << 27, "\xff\xff\xff\x7f"}, {1 << 27, "\x80\x80\x80\x80\x01"}, {-1<<27 - 1, "\x81\x80\x80\x80\x01"},
	{1<<34 - 1, "\xfe\xff\xff\xff\x7f"}, {-1 << 34, "\xff\xff\xff\xff\x7f"}, {1 << 34, "\x80\x80\x80\x80\x80\x01"}, {-1<<34 - 1, "\x81\x80\x80\x80\x80\x01"},
	{1<<41 - 1, "\xfe\xff\xff\xff\xff\x7f"}, {-1 << 41, "\xff\xff\xff\xff\xff\x7f"}, {1 << 41, "\x80\x80\x80\x80\x80\x80\x01"}, {-1<<41 - 1, "\x81\x80\x80\x80\x80\x80\x01"},
	{1<<48 - 1, "\xfe\xff\xff\xff\xff\xff\x7f"}, {-1 << 48, "\xff\xff\xff\xff\xff\xff\x7f"}, {1 << 48, "\x80\x80\x80\x80\x80\x80\x80\x01"}, {-1<<48 - 1, "\x81\x80\x80\x80\x80\x80\x80\x01"},
	{1<<55 - 1, "\xfe\xff\xff\xff\xff\xff\xff\x7f"}, {-1 << 55, "\xff\xff\xff\xff\xff\xff\xff\x7f"}, {1 << 55, "\x80\x80\x80\x80\x80\x80\x80\x80\x01"}, {-1<<55 - 1, "\x81\x80\x80\x80\x80\x80\x80\x80\x01"},
	{1<<62 - 1, "\xfe\xff\xff\xff\xff\xff\xff\xff\x7f"}, {-1 << 62, "\xff\xff\xff\xff\xff\xff\xff\xff\x7f"}, {1 << 62, "\x80\x80\x80\x80\x80\x80\x80\x80\x80\x01"}, {-1<<62 - 1, "\x81\x80\x80\x80\x80\x80\x80\x80\x80\x01"},
	{greatest - 1, "\xfc\xff\xff\xff\xff\xff\xff\xff\xff\x01"}, {greatest, "\xfe\xff\xff\xff\xff\xff\xff\xff\xff\x01"},
	{least + 1, "\xfd\xff\xff\xff\xff\xff\xff\xff\xff\x01"}, {least, "\xff\xff\xff\xff\xff\xff\xff\xff\xff\x01"},
}

// texts holds strings of no bytes, of a few, of any bytes, and around the count that takes a second byte.
var texts = []string{
	"", "a", "ab", "dray", "\x00", "\x80\xff\x00", "gr\u00fc\u00df", strings.Repeat("x", 63), strings.Repeat("y", 64), strings.Repeat("\xff", 300),
}

// lists holds lists of no numbers, of a few, of all the others, and around the count that takes a second byte.
var lists = [][]int{
	nil, {}, {0}, {3, -3}, {5, least, greatest}, {64, 0, -65}, make([]int, 63), make([]int, 64), allNumbers(),
}

func allNumbers() []int {
	var l []int
	for _, c := range numbers {
		l = append(l, c.n)
	}
	return l
}

// wantNum is a number's encoding by the library's hand.
func wantNum(n int) []byte {
	return binary.AppendVarint(nil, int64(n))
}

// wantNums is a list's encoding by the library's hand.
func wantNums(l []int) []byte {
	b := wantNum(len(l))
	for _, n := range l {
		b = append(b, wantNum(n)...)
	}
	return b
}

// wantText is a string's encoding by the library's hand.
func wantText(s string) []byte {
	return append(wantNum(len(s)), s...)
}

// value is something that is written one way and read the same way back.
type value struct {
	name  string
	bytes []byte
	read  func(r *wire.Reader) bool
}

func numValue(n int) value {
	return value{"number", wire.Num(nil, n), func(r *wire.Reader) bool { return r.Num() == n }}
}

func countValue(n int) value {
	return value{"count", wire.Num(nil, n), func(r *wire.Reader) bool { return r.Count(n) == n }}
}

func numsValue(l []int) value {
	return value{"list", wire.Nums(nil, l...), func(r *wire.Reader) bool { return slices.Equal(r.Nums(len(l)), l) }}
}

func textValue(s string) value {
	return value{"string", wire.Text(nil, s), func(r *wire.Reader) bool { return r.Text(len(s)) == s }}
}

func flagValue(f bool) value {
	return value{"flag", wire.Flag(nil, f), func(r *wire.Reader) bool { return r.Flag() == f }}
}

// values holds one of every kind at each edge.
func values() []value {
	l := []value{flagValue(true), flagValue(false)}
	for _, c := range numbers {
		l = append(l, numValue(c.n))
		if c.n >= 0 {
			l = append(l, countValue(c.n))
		}
	}
	for _, s := range texts {
		l = append(l, textValue(s))
	}
	for _, n := range lists {
		l = append(l, numsValue(n))
	}
	return l
}

// wantFault holds a reader's state against a Fault at a place, from where nothing has moved.
func wantFault(t *testing.T, r *wire.Reader, at int, why api.Errno) {
	t.Helper()
	if r.Fault != (api.Fault{At: at, Why: why}) || r.Next() != at {
		t.Errorf("Fault %+v at position %d, not %d at %d", r.Fault, r.Next(), why, at)
	}
	if r.Where() != at || r.Err() != why || r.Good() {
		t.Errorf("Where %d, Err %d, Good %v, not %d at %d", r.Where(), r.Err(), r.Good(), why, at)
	}
}

// wantNext holds a reader's state against a position without a Fault.
func wantNext(t *testing.T, r *wire.Reader, next int) {
	t.Helper()
	if r.Fault != (api.Fault{}) || r.Next() != next {
		t.Errorf("Fault %+v at position %d, not none at %d", r.Fault, r.Next(), next)
	}
	if r.Where() != 0 || r.Err() != api.OK || !r.Good() {
		t.Errorf("Where %d, Err %d, Good %v, but nothing is wrong", r.Where(), r.Err(), r.Good())
	}
}

// wantStopped holds that a reader with a Fault reads nothing any more.
func wantStopped(t *testing.T, r *wire.Reader) {
	t.Helper()
	fault, next := r.Fault, r.Next()
	for _, most := range []int{least, -1, 0, 1, 9, greatest} {
		if n := r.Num(); n != 0 {
			t.Errorf("Num = %d behind a Fault", n)
		}
		if n := r.Count(most); n != 0 {
			t.Errorf("Count(%d) = %d behind a Fault", most, n)
		}
		if l := r.Nums(most); len(l) != 0 {
			t.Errorf("Nums(%d) = %v behind a Fault", most, l)
		}
		if s := r.Text(most); s != "" {
			t.Errorf("Text(%d) = %q behind a Fault", most, s)
		}
		if r.Flag() {
			t.Error("Flag is true behind a Fault")
		}
		if why := r.End(); why != fault.Why {
			t.Errorf("End = %d behind %+v", why, fault)
		}
		if r.Fault != fault || r.Next() != next {
			t.Errorf("Fault %+v at position %d, formerly %+v at %d", r.Fault, r.Next(), fault, next)
		}
	}
}

// P3.1
func TestWriteNum(t *testing.T) {
	for _, c := range numbers {
		if got := wire.Num(nil, c.n); string(got) != c.b {
			t.Errorf("Num(nil, %d) = % x, not % x", c.n, got, c.b)
		}
		if got := wire.Num([]byte("\xff\x00"), c.n); string(got) != "\xff\x00"+c.b {
			t.Errorf("Num(ff 00, %d) = % x", c.n, got)
		}
	}
}

// P3.1, near 0 and around each power of two
func TestWriteNumAgainstLibrary(t *testing.T) {
	check := func(n int) {
		if got := wire.Num(nil, n); !bytes.Equal(got, wantNum(n)) {
			t.Errorf("Num(nil, %d) = % x, not % x", n, got, wantNum(n))
		}
	}
	for n := -20000; n <= 20000; n++ {
		check(n)
	}
	for bit := range 64 {
		for d := -3; d <= 3; d++ {
			check(1<<bit + d)
			check(-1<<bit + d)
		}
	}
}

// P3.1
func TestWriteNums(t *testing.T) {
	for _, c := range []struct {
		b    string
		l    []int
		want string
	}{
		{"", nil, "\x00"},
		{"", []int{}, "\x00"},
		{"\x07", nil, "\x07\x00"},
		{"", []int{0}, "\x02\x00"},
		{"\x07", []int{3, -3}, "\x07\x04\x06\x05"},
		{"", []int{64, -65, 1}, "\x06\x80\x01\x81\x01\x02"},
		{"ab", []int{least, greatest}, "ab\x04\xff\xff\xff\xff\xff\xff\xff\xff\xff\x01\xfe\xff\xff\xff\xff\xff\xff\xff\xff\x01"},
		{"", make([]int, 63), "\x7e" + strings.Repeat("\x00", 63)},
		{"", make([]int, 64), "\x80\x01" + strings.Repeat("\x00", 64)},
	} {
		if got := wire.Nums([]byte(c.b), c.l...); string(got) != c.want {
			t.Errorf("Nums(%q, %v) = % x, not % x", c.b, c.l, got, c.want)
		}
	}
	if got := wire.Nums(nil); string(got) != "\x00" {
		t.Errorf("Nums(nil) = % x", got)
	}
	for _, l := range lists {
		if got := wire.Nums(nil, l...); !bytes.Equal(got, wantNums(l)) {
			t.Errorf("Nums(nil, %v) = % x", l, got)
		}
	}
}

// P3.1
func TestWriteText(t *testing.T) {
	for _, c := range []struct{ b, s, want string }{
		{"", "", "\x00"},
		{"\x07", "", "\x07\x00"},
		{"", "ab", "\x04ab"},
		{"\x07", "ab", "\x07\x04ab"},
		{"", "\x00", "\x02\x00"},
		{"", "\xff\x80", "\x04\xff\x80"},
		// The length counts bytes, not letters.
		{"", "\u00fc", "\x04\xc3\xbc"},
		{"", strings.Repeat("x", 63), "\x7e" + strings.Repeat("x", 63)},
		{"", strings.Repeat("x", 64), "\x80\x01" + strings.Repeat("x", 64)},
	} {
		if got := wire.Text([]byte(c.b), c.s); string(got) != c.want {
			t.Errorf("Text(%q, %q) = % x, not % x", c.b, c.s, got, c.want)
		}
	}
	for _, s := range texts {
		if got := wire.Text(nil, s); !bytes.Equal(got, wantText(s)) {
			t.Errorf("Text(nil, %q) = % x", s, got)
		}
	}
}

// P3.1
func TestWriteFlag(t *testing.T) {
	for _, c := range []struct {
		b    string
		f    bool
		want string
	}{
		{"", false, "\x00"}, {"", true, "\x01"}, {"\x07", false, "\x07\x00"}, {"\x07", true, "\x07\x01"}, {"abc", true, "abc\x01"},
	} {
		if got := wire.Flag([]byte(c.b), c.f); string(got) != c.want {
			t.Errorf("Flag(%q, %v) = % x, not % x", c.b, c.f, got, c.want)
		}
	}
	if got := wire.Flag(nil, true); string(got) != "\x01" {
		t.Errorf("Flag(nil, true) = % x", got)
	}
}

// P3.2: a reader begins at 0 without a Fault, whatever the bytes are.
func TestReadBegins(t *testing.T) {
	for _, b := range [][]byte{nil, {}, {0}, {0x80}, {0xff, 0xff}, bytes.Repeat([]byte{0xff}, 20)} {
		r := wire.Read(b)
		if r == nil {
			t.Fatalf("Read(% x) = nil", b)
		}
		wantNext(t, r, 0)
	}
}

// P3.2: each value moves the position behind it.
func TestReadMovesOn(t *testing.T) {
	var b []byte
	var ends []int
	for _, v := range values() {
		b = append(b, v.bytes...)
		ends = append(ends, len(b))
	}
	r := wire.Read(b)
	for i, v := range values() {
		if !v.read(r) {
			t.Errorf("%s % x is read otherwise", v.name, v.bytes)
		}
		wantNext(t, r, ends[i])
	}
	if why := r.End(); why != api.OK {
		t.Errorf("End = %d behind all", why)
	}
}

// P3.2, P3.3
func TestReadNum(t *testing.T) {
	for _, c := range numbers {
		for _, tail := range []string{"", "\x00", "\x01", "\x80", "\xff\xff", strings.Repeat("\x80", 12)} {
			r := wire.Read([]byte(c.b + tail))
			if n := r.Num(); n != c.n {
				t.Errorf("Num of % x = %d, not %d", c.b+tail, n, c.n)
			}
			wantNext(t, r, len(c.b))
		}
	}
}

// P3.3
func TestReadNumWrong(t *testing.T) {
	nine, zeros := strings.Repeat("\xff", 9), strings.Repeat("\x80", 9)
	for _, c := range []struct {
		b   string
		why api.Errno
	}{
		{"", api.ErrShort}, {"\x80", api.ErrShort}, {"\xff", api.ErrShort}, {"\x81\x80", api.ErrShort},
		{nine[1:], api.ErrShort}, {nine, api.ErrShort}, {zeros, api.ErrShort},
		// a last byte of 0 behind others
		{"\x80\x00", api.ErrForm}, {"\xff\x00", api.ErrForm}, {"\x81\x80\x00", api.ErrForm}, {"\x80\x80\x80\x00", api.ErrForm},
		{nine[1:] + "\x00", api.ErrForm}, {zeros[1:] + "\x00", api.ErrForm},
		// a tenth byte
		{nine + "\x00", api.ErrForm}, {zeros + "\x00", api.ErrForm},
		{nine + "\x02", api.ErrForm}, {zeros + "\x02", api.ErrForm}, {nine + "\x03", api.ErrForm}, {nine + "\x7f", api.ErrForm},
		// A tenth byte that promises an eleventh is met ahead of the end, and ahead of a last byte of 0.
		{nine + "\x80", api.ErrForm}, {nine + "\x81", api.ErrForm}, {nine + "\xff", api.ErrForm}, {zeros + "\x80", api.ErrForm},
		{nine + "\x80\x00", api.ErrForm}, {nine + "\x81\x01", api.ErrForm}, {nine + nine, api.ErrForm}, {nine + nine + "\x01", api.ErrForm},
	} {
		for _, ahead := range []string{"", "\x02", "\x80\x01\x05"} {
			r := wire.Read([]byte(ahead + c.b))
			for r.Next() < len(ahead) {
				r.Num()
			}
			if n := r.Num(); n != 0 {
				t.Errorf("Num of % x = %d", c.b, n)
			}
			wantFault(t, r, len(ahead), c.why)
			wantStopped(t, r)
		}
	}
	for _, c := range []struct {
		b    string
		want int
	}{{nine + "\x01", least}, {zeros + "\x01", 1 << 62}} {
		if n := wire.Read([]byte(c.b)).Num(); n != c.want {
			t.Errorf("Num of % x = %d, not %d", c.b, n, c.want)
		}
	}
}

// readNum is P3.3 for a number in the chapter's own order, byte by byte, in numbers that are wide enough.
func readNum(b []byte) (n, size int, why api.Errno) {
	u, weight := uint64(0), uint64(1)
	for i := 0; ; i++ {
		if i == len(b) {
			return 0, 0, api.ErrShort
		}
		if i == 9 && b[i] > 1 {
			return 0, 0, api.ErrForm
		}
		if b[i] >= 0x80 {
			u += uint64(b[i]-0x80) * weight
			weight *= 128
			continue
		}
		if i > 0 && b[i] == 0 {
			return 0, 0, api.ErrForm
		}
		u += uint64(b[i]) * weight
		if u%2 == 1 {
			return -int(u/2) - 1, i + 1, api.OK
		}
		return int(u / 2), i + 1, api.OK
	}
}

// forBytes calls f with every sequence of at most four of some bytes that matter, alone and behind eight that go on.
func forBytes(f func(b []byte)) {
	some := []byte{0, 1, 2, 4, 0x7f, 0x80, 0x81, 0xff}
	var all func(b []byte, left int)
	all = func(b []byte, left int) {
		f(b)
		if left == 0 {
			return
		}
		for _, c := range some {
			all(slices.Concat(b, []byte{c}), left-1)
		}
	}
	all(nil, 4)
	all(bytes.Repeat([]byte{0x80}, 8), 4)
	all(bytes.Repeat([]byte{0xff}, 8), 4)
}

// P3.3, of every sequence
func TestReadNumOfBytes(t *testing.T) {
	forBytes(func(b []byte) {
		n, size, why := readNum(b)
		r := wire.Read(b)
		if got := r.Num(); got != n || r.Next() != size || r.Fault != (api.Fault{Why: why}) {
			t.Errorf("Num of % x = %d, %+v, position %d, not %d, %d, %d", b, got, r.Fault, r.Next(), n, why, size)
		}
	})
}

// P3.2, P3.3
func TestReadCount(t *testing.T) {
	for _, c := range []struct {
		n, most int
		why     api.Errno
	}{
		{0, 0, api.OK}, {0, 5, api.OK}, {4, 5, api.OK}, {5, 5, api.OK}, {6, 5, api.ErrLong}, {1, 0, api.ErrLong},
		{64, 64, api.OK}, {65, 64, api.ErrLong}, {63, 64, api.OK}, {1000, 64, api.ErrLong},
		{greatest, greatest, api.OK}, {greatest, greatest - 1, api.ErrLong}, {greatest - 1, greatest, api.OK}, {1 << 62, greatest, api.OK},
		{-1, 5, api.ErrLong}, {-1, 0, api.ErrLong}, {-1, greatest, api.ErrLong}, {least, greatest, api.ErrLong}, {-64, 1 << 62, api.ErrLong},
		// A negative most lets nothing pass, not even what lies below it.
		{0, -1, api.ErrLong}, {5, -1, api.ErrLong}, {-1, -1, api.ErrLong}, {-2, -1, api.ErrLong}, {0, least, api.ErrLong}, {least, least, api.ErrLong},
	} {
		b := wire.Num([]byte{1}, c.n)
		r := wire.Read(b)
		r.Flag()
		got := r.Count(c.most)
		if c.why == api.OK {
			if got != c.n {
				t.Errorf("Count(%d) of %d = %d", c.most, c.n, got)
			}
			wantNext(t, r, len(b))
			continue
		}
		if got != 0 {
			t.Errorf("Count(%d) of %d = %d, not 0", c.most, c.n, got)
		}
		wantFault(t, r, 1, c.why)
		wantStopped(t, r)
	}
}

// P3.3: Count, Nums and Text have the errors of Num, ahead of their own.
func TestCountsHaveErrorsOfNum(t *testing.T) {
	for _, c := range []struct {
		b   string
		why api.Errno
	}{
		{"", api.ErrShort}, {"\x80", api.ErrShort}, {"\xff\xff", api.ErrShort}, {"\x80\x00", api.ErrForm}, {"\xff\x00", api.ErrForm},
		{strings.Repeat("\xff", 9) + "\x02", api.ErrForm}, {strings.Repeat("\xff", 9), api.ErrShort},
	} {
		for _, most := range []int{least, -1, 0, 5, greatest} {
			r := wire.Read([]byte("\x00" + c.b))
			if r.Flag() || r.Count(most) != 0 {
				t.Errorf("Count(%d) of % x is not 0", most, c.b)
			}
			wantFault(t, r, 1, c.why)
			r = wire.Read([]byte("\x00" + c.b))
			if r.Flag() || len(r.Nums(most)) != 0 {
				t.Errorf("Nums(%d) of % x is not empty", most, c.b)
			}
			wantFault(t, r, 1, c.why)
			r = wire.Read([]byte("\x00" + c.b))
			if r.Flag() || r.Text(most) != "" {
				t.Errorf("Text(%d) of % x is not empty", most, c.b)
			}
			wantFault(t, r, 1, c.why)
		}
	}
}

// P3.2, P3.3
func TestReadFlag(t *testing.T) {
	for c := range 256 {
		r := wire.Read([]byte{0, byte(c), 9})
		r.Flag()
		got := r.Flag()
		if got != (c == 1) {
			t.Errorf("Flag of %02x = %v", c, got)
		}
		if c < 2 {
			wantNext(t, r, 2)
			continue
		}
		wantFault(t, r, 1, api.ErrForm)
		wantStopped(t, r)
	}
	for _, b := range [][]byte{nil, {}, {1}, {1, 0, 1}} {
		r := wire.Read(b)
		for range b {
			r.Flag()
		}
		wantNext(t, r, len(b))
		if r.Flag() {
			t.Errorf("Flag behind % x is true", b)
		}
		wantFault(t, r, len(b), api.ErrShort)
		wantStopped(t, r)
	}
}

// P3.2, P3.3
func TestReadText(t *testing.T) {
	for _, c := range []struct {
		b    string
		most int
		want string
		next int
		why  api.Errno
	}{
		{"\x00", 0, "", 1, api.OK}, {"\x00\x05", 9, "", 1, api.OK}, {"\x04ab", 2, "ab", 3, api.OK}, {"\x04abc", 9, "ab", 3, api.OK},
		{"\x02\x00", 1, "\x00", 2, api.OK}, {"\x04\xff\x80", greatest, "\xff\x80", 3, api.OK},
		{"\x04ab", 1, "", 0, api.ErrLong}, {"\x02a", 0, "", 0, api.ErrLong}, {"\x00", -1, "", 0, api.ErrLong}, {"\x04ab", least, "", 0, api.ErrLong},
		{"\x01a", 9, "", 0, api.ErrLong}, {"\x03abc", greatest, "", 0, api.ErrLong},
		{"\x06ab", 9, "", 0, api.ErrShort}, {"\x02", 9, "", 0, api.ErrShort}, {"\x80\x01" + strings.Repeat("x", 63), 64, "", 0, api.ErrShort},
		// ErrLong is asked ahead of the bytes that are there.
		{"\x06ab", 2, "", 0, api.ErrLong},
		// counts beyond all memory
		{"\xfe\xff\xff\xff\xff\xff\xff\xff\xff\x01ab", greatest, "", 0, api.ErrShort},
		{"\xfe\xff\xff\xff\xff\xff\xff\xff\xff\x01ab", greatest - 1, "", 0, api.ErrLong},
		{"\x80\x80\x80\x80\x80\x80\x80\x80\x80\x01", 1 << 62, "", 0, api.ErrShort},
	} {
		for _, ahead := range []string{"", "\x01", "\x00\x01\x00"} {
			r := wire.Read([]byte(ahead + c.b))
			for range len(ahead) {
				r.Flag()
			}
			if s := r.Text(c.most); s != c.want {
				t.Errorf("Text(%d) of % x = %q, not %q", c.most, c.b, s, c.want)
			}
			if c.why == api.OK {
				wantNext(t, r, len(ahead)+c.next)
				continue
			}
			wantFault(t, r, len(ahead), c.why)
			wantStopped(t, r)
		}
	}
}

// P3.2, P3.3
func TestReadNums(t *testing.T) {
	for _, c := range []struct {
		b    string
		most int
		want []int
		next int
		why  api.Errno
	}{
		{"\x00", 0, nil, 1, api.OK}, {"\x00\x80", 9, nil, 1, api.OK}, {"\x04\x06\x05", 2, []int{3, -3}, 3, api.OK},
		{"\x04\x06\x05\x80", 9, []int{3, -3}, 3, api.OK}, {"\x02\x80\x01", greatest, []int{64}, 3, api.OK},
		{"\x04\x06\x05", 1, nil, 0, api.ErrLong}, {"\x02\x00", 0, nil, 0, api.ErrLong}, {"\x00", -1, nil, 0, api.ErrLong}, {"\x02\x00", least, nil, 0, api.ErrLong},
		{"\x01\x00", 9, nil, 0, api.ErrLong}, {"\x03\x00\x00", greatest, nil, 0, api.ErrLong},
		{"\x02", 9, nil, 0, api.ErrShort}, {"\x04\x06", 9, nil, 0, api.ErrShort}, {"\x04\x06\x80", 9, nil, 0, api.ErrShort},
		{"\x80\x01" + strings.Repeat("\x00", 63), 64, nil, 0, api.ErrShort},
		{"\x04\x06\x80\x00", 9, nil, 0, api.ErrForm}, {"\x04\x80\x00\x06", 9, nil, 0, api.ErrForm},
		{"\x02" + strings.Repeat("\xff", 9) + "\x02", 9, nil, 0, api.ErrForm},
		// The first number that can't be read tells the error: the end comes behind it.
		{"\x06\x06\x80\x00", 9, nil, 0, api.ErrForm}, {"\x06\x80\x00\x80", 9, nil, 0, api.ErrForm},
		// ErrLong is asked ahead of the numbers.
		{"\x06\x80\x00", 2, nil, 0, api.ErrLong},
		// counts beyond all memory
		{"\xfe\xff\xff\xff\xff\xff\xff\xff\xff\x01\x02\x04", greatest, nil, 0, api.ErrShort},
		{"\xfe\xff\xff\xff\xff\xff\xff\xff\xff\x01\x02\x80\x00", greatest, nil, 0, api.ErrForm},
		{"\xfe\xff\xff\xff\xff\xff\xff\xff\xff\x01\x02\x04", greatest - 1, nil, 0, api.ErrLong},
	} {
		for _, ahead := range []string{"", "\x01", "\x00\x01\x00"} {
			r := wire.Read([]byte(ahead + c.b))
			for range len(ahead) {
				r.Flag()
			}
			if l := r.Nums(c.most); !slices.Equal(l, c.want) {
				t.Errorf("Nums(%d) of % x = %v, not %v", c.most, c.b, l, c.want)
			}
			if c.why == api.OK {
				wantNext(t, r, len(ahead)+c.next)
				continue
			}
			wantFault(t, r, len(ahead), c.why)
			wantStopped(t, r)
		}
	}
}

// P3.4
func TestEnd(t *testing.T) {
	for _, b := range [][]byte{nil, {}} {
		r := wire.Read(b)
		if why := r.End(); why != api.OK {
			t.Errorf("End of no bytes = %d", why)
		}
		wantNext(t, r, 0)
	}
	b := []byte{1, 0x80, 1, 4, 'a', 'b'}
	for _, c := range []struct {
		reads, next int
		why         api.Errno
	}{{0, 0, api.ErrTail}, {1, 1, api.ErrTail}, {2, 3, api.ErrTail}, {3, 6, api.OK}} {
		r := wire.Read(b)
		for i, read := range []func(){func() { r.Flag() }, func() { r.Num() }, func() { r.Text(2) }} {
			if i < c.reads {
				read()
			}
		}
		if why := r.End(); why != c.why {
			t.Errorf("End behind %d values = %d, not %d", c.reads, why, c.why)
		}
		if c.why == api.OK {
			wantNext(t, r, c.next)
			continue
		}
		wantFault(t, r, c.next, c.why)
		wantStopped(t, r)
	}
}

// P3.4: End behind all changes nothing, however often it is asked, and what is read behind it is missing.
func TestEndTwice(t *testing.T) {
	r := wire.Read([]byte{6})
	if n := r.Num(); n != 3 {
		t.Errorf("Num = %d", n)
	}
	for range 3 {
		if why := r.End(); why != api.OK {
			t.Errorf("End = %d", why)
		}
		wantNext(t, r, 1)
	}
	r.Num()
	wantFault(t, r, 1, api.ErrShort)
	if why := r.End(); why != api.ErrShort {
		t.Errorf("End = %d", why)
	}
}

// P3.4: End tells a Fault that is there, even with bytes behind the position.
func TestEndTellsFault(t *testing.T) {
	for _, c := range []struct {
		read func(r *wire.Reader)
		b    []byte
		why  api.Errno
	}{
		{func(r *wire.Reader) { r.Num() }, []byte{0x80}, api.ErrShort},
		{func(r *wire.Reader) { r.Num() }, []byte{0x80, 0, 5}, api.ErrForm},
		{func(r *wire.Reader) { r.Flag() }, []byte{2, 0}, api.ErrForm},
		{func(r *wire.Reader) { r.Flag() }, nil, api.ErrShort},
		{func(r *wire.Reader) { r.Count(5) }, []byte{12, 0}, api.ErrLong},
		{func(r *wire.Reader) { r.Text(5) }, []byte{6, 'a', 'b'}, api.ErrShort},
		{func(r *wire.Reader) { r.Nums(5) }, []byte{6, 1, 0x80, 0}, api.ErrForm},
	} {
		r := wire.Read(c.b)
		c.read(r)
		if why := r.End(); why != c.why {
			t.Errorf("End of % x = %d, not %d", c.b, why, c.why)
		}
		wantFault(t, r, 0, c.why)
		wantStopped(t, r)
	}
}

// P3.5: what was written is read back, whatever follows it.
func TestReadBack(t *testing.T) {
	for _, v := range values() {
		for _, tail := range []string{"", "\x00", "\x01", "\x02", "\x80", "\xff\xff", strings.Repeat("\x80", 20)} {
			r := wire.Read(slices.Concat(v.bytes, []byte(tail)))
			if !v.read(r) {
				t.Errorf("%s % x is read otherwise ahead of % x", v.name, v.bytes, tail)
			}
			wantNext(t, r, len(v.bytes))
			if why := r.End(); (why == api.OK) != (tail == "") {
				t.Errorf("End behind %s % x ahead of % x = %d", v.name, v.bytes, tail, why)
			}
		}
	}
}

// P3.5: a proper prefix of what was written ends too early.
func TestPrefixIsShort(t *testing.T) {
	for _, v := range values() {
		for n := range v.bytes {
			r := wire.Read(v.bytes[:n])
			v.read(r)
			wantFault(t, r, 0, api.ErrShort)
			if why := r.End(); why != api.ErrShort {
				t.Errorf("End of % x of a %s = %d", v.bytes[:n], v.name, why)
			}
		}
	}
}

// P3.5, of several values one after another: the value in which the bytes end has the Fault.
func TestPrefixOfSeveral(t *testing.T) {
	b := wire.Text(wire.Nums(wire.Flag(wire.Num(nil, -300), true), 5, least, greatest), "dray")
	starts, ends := []int{0, 2, 3, 25}, []int{2, 3, 25, 30}
	for n := range b {
		r := wire.Read(b[:n])
		r.Num()
		r.Flag()
		r.Nums(3)
		r.Text(4)
		broken := slices.IndexFunc(ends, func(end int) bool { return end > n })
		wantFault(t, r, starts[broken], api.ErrShort)
	}
	r := wire.Read(b)
	if r.Num() != -300 || !r.Flag() || !slices.Equal(r.Nums(3), []int{5, least, greatest}) || r.Text(4) != "dray" || r.End() != api.OK {
		t.Errorf("% x is read otherwise: %+v", b, r.Fault)
	}
}

// again holds each way to read one value and write it anew.
var again = []func(r *wire.Reader) []byte{
	func(r *wire.Reader) []byte { return wire.Num(nil, r.Num()) },
	func(r *wire.Reader) []byte { return wire.Num(nil, r.Count(greatest)) },
	func(r *wire.Reader) []byte { return wire.Nums(nil, r.Nums(greatest)...) },
	func(r *wire.Reader) []byte { return wire.Text(nil, r.Text(greatest)) },
	func(r *wire.Reader) []byte { return wire.Flag(nil, r.Flag()) },
}

// P3.5: what is read completely has these bytes as its encoding.
func TestOneEncoding(t *testing.T) {
	whole := make([]int, len(again))
	forBytes(func(b []byte) {
		for i, f := range again {
			r := wire.Read(b)
			written := f(r)
			if r.End() != api.OK {
				continue
			}
			whole[i]++
			if !bytes.Equal(written, b) {
				t.Errorf("% x is read completely, but written as % x", b, written)
			}
		}
	})
	if slices.Contains(whole, 0) {
		t.Errorf("of the sequences, so many are read completely in each way: %v", whole)
	}
}

// P3.5, of values of all kinds in an order that is the same in every run
func TestMixedValues(t *testing.T) {
	all, draw := values(), rand.New(rand.NewSource(3))
	for range 200 {
		var l []value
		var b []byte
		for range draw.Intn(12) {
			v := all[draw.Intn(len(all))]
			l = append(l, v)
			b = append(b, v.bytes...)
		}
		r := wire.Read(b)
		for _, v := range l {
			if !v.read(r) {
				t.Errorf("%s % x is read otherwise", v.name, v.bytes)
			}
		}
		if why := r.End(); why != api.OK {
			t.Errorf("End of % x = %d", b, why)
		}
		wantNext(t, r, len(b))
	}
}

// The chapter's example runs.
func TestExampleRuns(t *testing.T) {
	for i, c := range []struct {
		got  []byte
		want string
	}{
		{wire.Num(nil, 0), "\x00"},
		{wire.Num(nil, -1), "\x01"},
		{wire.Num(nil, 64), "\x80\x01"},
		{wire.Num(nil, 1<<62), "\x80\x80\x80\x80\x80\x80\x80\x80\x80\x01"},
		{wire.Nums([]byte{7}, 3, -3), "\x07\x04\x06\x05"},
		{wire.Text(nil, "ab"), "\x04\x61\x62"},
		{wire.Flag([]byte{7}, true), "\x07\x01"},
	} {
		if string(c.got) != c.want {
			t.Errorf("run %d: % x, not % x", i, c.got, c.want)
		}
	}
	for _, c := range []struct {
		b   []byte
		why api.Errno
	}{{[]byte{0x80, 0}, api.ErrForm}, {[]byte{0x80}, api.ErrShort}, {bytes.Repeat([]byte{0xff}, 10), api.ErrForm}} {
		r := wire.Read(c.b)
		if n := r.Num(); n != 0 {
			t.Errorf("Num of % x = %d", c.b, n)
		}
		wantFault(t, r, 0, c.why)
	}
	if n := wire.Read(append(bytes.Repeat([]byte{0xff}, 9), 1)).Num(); n != -1<<63 {
		t.Errorf("Num of the least = %d", n)
	}
	r := wire.Read([]byte{0x01, 0x0c})
	if !r.Flag() || r.Count(5) != 0 {
		t.Error("Flag and then Count(5) of 01 0c")
	}
	wantFault(t, r, 1, api.ErrLong)
	r = wire.Read([]byte{0x06, 0x61, 0x62})
	if s := r.Text(9); s != "" {
		t.Errorf("Text(9) of 06 61 62 = %q", s)
	}
	wantFault(t, r, 0, api.ErrShort)
	r = wire.Read([]byte{0})
	if why := r.End(); why != api.ErrTail {
		t.Errorf("End of 00 = %d", why)
	}
	wantFault(t, r, 0, api.ErrTail)
}

// The chapter's ways: the methods of a Reader's Fault are those of api.Fault, by embedding.
func TestReaderEmbedsFault(t *testing.T) {
	r := wire.Read(nil)
	r.Num()
	var f api.Fault = r.Fault
	if f.Where() != r.At || f.Err() != r.Why || f.Good() != r.Good() || f.Why != api.ErrShort {
		t.Errorf("Fault %+v, At %d, Why %d", f, r.At, r.Why)
	}
}

// writers holds each way to write something behind b, and what it writes.
func writers() []struct {
	write func(b []byte) []byte
	want  []byte
} {
	return []struct {
		write func(b []byte) []byte
		want  []byte
	}{
		{func(b []byte) []byte { return wire.Num(b, 5) }, wantNum(5)},
		{func(b []byte) []byte { return wire.Num(b, least) }, wantNum(least)},
		{func(b []byte) []byte { return wire.Nums(b) }, wantNums(nil)},
		{func(b []byte) []byte { return wire.Nums(b, allNumbers()...) }, wantNums(allNumbers())},
		{func(b []byte) []byte { return wire.Text(b, "") }, wantText("")},
		{func(b []byte) []byte { return wire.Text(b, "dray") }, wantText("dray")},
		{func(b []byte) []byte { return wire.Flag(b, false) }, []byte{0}},
		{func(b []byte) []byte { return wire.Flag(b, true) }, []byte{1}},
	}
}

// overwrite writes over all that a slice reaches, its unused capacity too.
func overwrite(b []byte) {
	b = b[:cap(b)]
	for i := range b {
		b[i] = '#'
	}
}

// P3.1, R2 and R5: what is handed in stays as it is, its unused capacity too, and shares no memory with what is answered.
func TestWritersAnswerNewMemory(t *testing.T) {
	for _, w := range writers() {
		for _, n := range []int{0, 1, 7, 8, 200} {
			whole := bytes.Repeat([]byte{'b'}, n+2000)
			b := whole[:n]
			one, other := w.write(b), w.write(b)
			want := slices.Concat(whole[:n], w.want)
			if !bytes.Equal(one, want) || !bytes.Equal(whole, bytes.Repeat([]byte{'b'}, n+2000)) {
				t.Errorf("% x behind %d bytes: % x", w.want, n, one)
			}
			overwrite(one)
			if !bytes.Equal(whole, bytes.Repeat([]byte{'b'}, n+2000)) || !bytes.Equal(other, want) {
				t.Errorf("writing over % x behind %d bytes is seen elsewhere", w.want, n)
			}
			overwrite(whole)
			if !bytes.Equal(other, want) {
				t.Errorf("% x behind %d bytes changes with what was handed in", w.want, n)
			}
		}
	}
}

// R2 and R5: the numbers of a list stay, and what lies behind them is not written out.
func TestNumsOfPiece(t *testing.T) {
	whole := []int{1, 2, 3, 4, 5}
	if b := wire.Nums(nil, whole[1:3]...); string(b) != "\x04\x04\x06" {
		t.Errorf("Nums of a piece = % x", b)
	}
	if !slices.Equal(whole, []int{1, 2, 3, 4, 5}) {
		t.Errorf("the list is now %v", whole)
	}
}

// R2 and R5: a reader neither keeps nor changes the bytes that it was given, nor reads behind them.
func TestReaderKeepsNothing(t *testing.T) {
	whole := []byte("\x04ab\x04\x06\x05\x01\x04cd")
	b := whole[:7]
	kept := slices.Clone(whole)
	r, same := wire.Read(b), wire.Read(b)
	if same.Text(9) != "ab" || !slices.Equal(same.Nums(9), []int{3, -3}) || !same.Flag() || same.Text(9) != "" {
		t.Errorf("% x is read otherwise", b)
	}
	wantFault(t, same, 7, api.ErrShort)
	if !bytes.Equal(whole, kept) {
		t.Errorf("the bytes are now % x", whole)
	}
	overwrite(whole)
	if r.Text(9) != "ab" || !slices.Equal(r.Nums(9), []int{3, -3}) || !r.Flag() || r.End() != api.OK {
		t.Error("a reader changes with the bytes that it was given")
	}
}

// R2: the lists that a reader answers share no memory.
func TestListsAreNew(t *testing.T) {
	b := wire.Nums(wire.Nums(wire.Nums(nil), 1, 2, 3), 4, 5, 6)
	r := wire.Read(b)
	none, one, other := r.Nums(9), r.Nums(9), r.Nums(9)
	for _, l := range [][]int{none, one} {
		l = l[:cap(l)]
		for i := range l {
			l[i] = 77
		}
	}
	if !slices.Equal(other, []int{4, 5, 6}) {
		t.Errorf("another list is now %v", other)
	}
	if r = wire.Read(b); len(r.Nums(9)) != 0 || !slices.Equal(r.Nums(9), []int{1, 2, 3}) {
		t.Error("the bytes change with a list that was read of them")
	}
}

// Readers do not touch each other, not even of the same bytes.
func TestReadersStandAlone(t *testing.T) {
	b := []byte{2, 4, 6}
	one, other := wire.Read(b), wire.Read(b)
	one.Num()
	one.Num()
	wantNext(t, other, 0)
	other.End()
	wantFault(t, other, 0, api.ErrTail)
	wantNext(t, one, 2)
	if n := one.Num(); n != 3 {
		t.Errorf("Num = %d", n)
	}
}

// Long inputs: as many bytes as a disk holds, in one string, one list, and one value after another.
func TestLong(t *testing.T) {
	s := strings.Repeat("dray", 1<<18)
	r := wire.Read(wire.Text(nil, s))
	if r.Text(len(s)) != s || r.End() != api.OK {
		t.Errorf("a long string is read otherwise: %+v", r.Fault)
	}
	l := make([]int, 1<<17)
	for i := range l {
		l[i] = (i - 1<<16) << (i % 40)
	}
	b := wire.Nums(nil, l...)
	if !bytes.Equal(b, wantNums(l)) {
		t.Error("a long list is written otherwise")
	}
	r = wire.Read(b)
	if !slices.Equal(r.Nums(len(l)), l) || r.End() != api.OK {
		t.Errorf("a long list is read otherwise: %+v", r.Fault)
	}
	r = wire.Read(b)
	if len(r.Nums(len(l)-1)) != 0 {
		t.Error("a list of one number too many is read")
	}
	wantFault(t, r, 0, api.ErrLong)
	r = wire.Read(b)
	if r.Num() != len(l) {
		t.Error("the count of a long list is read otherwise")
	}
	for i, n := range l {
		if got := r.Num(); got != n {
			t.Fatalf("number %d is read as %d, not %d", i, got, n)
		}
	}
	if why := r.End(); why != api.OK {
		t.Errorf("End = %d", why)
	}
}
