package plan_test

import (
	"bytes"
	"encoding/binary"
	"slices"
	"strings"
	"testing"

	"dray/api"
	"dray/plan"
)

// piece is a value of an encoded plan: a number that is not counted with, a count with its limit, or a flag.
type piece struct {
	bytes []byte
	most  int
	flag  bool
}

func number(n int) piece      { return piece{bytes: binary.AppendVarint(nil, int64(n))} }
func count(n, most int) piece { return piece{bytes: number(n).bytes, most: most} }

func flag(f bool) piece {
	if f {
		return piece{bytes: []byte{1}, flag: true}
	}
	return piece{bytes: []byte{0}, flag: true}
}

// pieces is what P9.5 says of Encode by its words, for any plan. Numbers are as the library writes them.
func pieces(a api.Plan) []piece {
	l := []piece{count(len(a), fleet)}
	for _, r := range a {
		l = append(l, number(r.Driver), count(len(r.Stops), crowd), number(r.Served))
		for _, s := range r.Stops {
			l = append(l, number(s.Order), flag(s.Drop))
		}
	}
	return l
}

func joined(l []piece) []byte {
	var b []byte
	for _, p := range l {
		b = append(b, p.bytes...)
	}
	return b
}

// scan reads bytes as P9.5 and the chapter of the bytes put it; why is the first error.
type scan struct {
	rest []byte
	why  api.Errno
}

// take moves on, or stops where there is an error.
func (s *scan) take(size int, why api.Errno) bool {
	if s.why == api.OK && why != api.OK {
		s.why = why
	}
	if s.why != api.OK {
		return false
	}
	s.rest = s.rest[size:]
	return true
}

func (s *scan) number() int {
	n, size := binary.Varint(s.rest)
	why := api.OK
	switch {
	case size < 0, size == 0 && len(s.rest) >= binary.MaxVarintLen64, size > 1 && s.rest[size-1] == 0:
		why = api.ErrForm
	case size == 0:
		why = api.ErrShort
	}
	if !s.take(size, why) {
		return 0
	}
	return int(n)
}

func (s *scan) count(most int) int {
	n := s.number()
	if !s.take(0, api.OK) {
		return 0
	}
	if n < 0 || n > most {
		s.take(0, api.ErrLong)
		return 0
	}
	return n
}

func (s *scan) flag() bool {
	if len(s.rest) == 0 {
		s.take(0, api.ErrShort)
		return false
	}
	c := s.rest[0]
	if c > 1 {
		s.take(0, api.ErrForm)
		return false
	}
	return s.take(1, api.OK) && c == 1
}

// decodeThere is what P9.5 says of Decode.
func decodeThere(b []byte) (api.Plan, api.Errno) {
	var a api.Plan
	s := &scan{rest: b}
	for n := s.count(fleet); n > 0; n-- {
		r := api.Route{Driver: s.number()}
		stops := s.count(crowd)
		r.Served = s.number()
		for ; stops > 0; stops-- {
			id := s.number()
			r.Stops = append(r.Stops, api.Stop{Order: id, Drop: s.flag()})
		}
		a = append(a, r)
	}
	if len(s.rest) > 0 {
		s.take(0, api.ErrTail)
	}
	if s.why == api.OK && !rightThere(a) {
		s.why = api.ErrForm
	}
	if s.why != api.OK {
		return nil, s.why
	}
	return a, api.OK
}

// decode calls Decode and holds it against P9.5, that the bytes stay, with the room behind them, that what is answered is
// new, and that what is accepted is the Encode of its result.
func decode(t *testing.T, b []byte) (api.Plan, api.Errno) {
	t.Helper()
	handed := append(make([]byte, 0, len(b)+3), b...)
	copy(handed[len(b):cap(handed)], "\x02\x00\x00")
	before := slices.Clone(handed[:cap(handed)])
	got, why := plan.Decode(handed)
	if want, wrong := decodeThere(b); why != wrong || !same(got, want) {
		t.Fatalf("Decode(% x) = %v, %d, not %v, %d", b, got, why, want, wrong)
	}
	if !bytes.Equal(handed[:cap(handed)], before) {
		t.Fatalf("the bytes and the room behind them are now % x, not % x", handed[:cap(handed)], before)
	}
	answer := plain(got)
	if why == api.OK && !bytes.Equal(plan.Encode(answer), b) {
		t.Fatalf("Decode(% x) = %v, and Encode of that is % x", b, answer, plan.Encode(answer))
	}
	other, _ := plan.Decode(handed)
	checkNew(t, got, other)
	return answer, why
}

func checkRefused(t *testing.T, b string, why api.Errno) {
	t.Helper()
	if a, got := decode(t, []byte(b)); len(a) != 0 || got != why {
		t.Errorf("Decode(% x) = %v, %d, not %d", b, a, got, why)
	}
}

// encode calls Encode and holds it against P9.5, that a stays, with the room behind it, and that what is answered is new.
func encode(t *testing.T, a api.Plan) []byte {
	t.Helper()
	handed := roomy(a)
	before := clone(handed)
	got := plan.Encode(handed)
	var want []byte
	if rightThere(a) {
		want = joined(pieces(a))
	}
	if !bytes.Equal(got, want) {
		t.Fatalf("Encode(%v) = % x, not % x", a, got, want)
	}
	answer := slices.Clone(got)
	clear(got[:cap(got)])
	if again := plan.Encode(handed); !bytes.Equal(again, want) {
		t.Fatalf("Encode(%v) = % x at first, then % x", a, want, again)
	}
	checkStayed(t, handed, before)
	return answer
}

// checkBytes holds that a plan and its bytes are each other's.
func checkBytes(t *testing.T, a api.Plan, want string) {
	t.Helper()
	if got := encode(t, a); string(got) != want {
		t.Errorf("Encode(%v) = % x, not % x", a, got, want)
	}
	if got, why := decode(t, []byte(want)); why != api.OK || !same(got, a) {
		t.Errorf("Decode(% x) = %v, %d, not %v", want, got, why, a)
	}
}

// encoded returns plans that are right, with their bytes.
func encoded(t *testing.T) map[string]api.Plan {
	t.Helper()
	l := map[string]api.Plan{}
	for _, a := range []api.Plan{nil, {route(1, 0)}, {route(1, 0), route(64, 1, p(1)), route(highest, 0)}, example(), three()} {
		l[string(encode(t, a))] = a
	}
	return l
}

// P9.5: plans with their bytes, written out
func TestBytes(t *testing.T) {
	checkBytes(t, nil, "\x00")
	checkBytes(t, api.Plan{}, "\x00")
	checkBytes(t, api.Plan{route(1, 0)}, "\x02\x02\x00\x00")
	checkBytes(t, api.Plan{route(1, 0), route(2, 0), route(3, 0)}, "\x06\x02\x00\x00\x04\x00\x00\x06\x00\x00")
	checkBytes(t, api.Plan{route(63, 0, p(63)), route(64, 1, q(64))}, "\x04\x7e\x02\x00\x7e\x00\x80\x01\x02\x02\x80\x01\x01")
	checkBytes(t, api.Plan{route(highest, 0, q(highest), p(highest))}, "\x02\x80\x89\x7a\x04\x00\x80\x89\x7a\x01\x80\x89\x7a\x00")
	checkBytes(t, api.Plan{route(5, 2, q(3), p(3)), route(6, 0, p(9))}, "\x04\x0a\x04\x04\x06\x01\x06\x00\x0c\x02\x00\x12\x00")
	checkBytes(t, api.Plan{route(1, 63, firsts(1, 63)...)}, "\x02\x02\x7e\x7e"+stopBytes(63))
	checkBytes(t, api.Plan{route(1, 63, firsts(1, 64)...)}, "\x02\x02\x80\x01\x7e"+stopBytes(64))
	checkBytes(t, api.Plan{route(1, 64, firsts(1, 64)...)}, "\x02\x02\x80\x01\x80\x01"+stopBytes(64))
	checkBytes(t, api.Plan{route(1, crowd, firsts(1, crowd)...)}, "\x02\x02\xa0\x01\xa0\x01"+stopBytes(crowd))
	var most api.Plan
	want := "\x10"
	for i := range fleet {
		most = append(most, route(i+1, 0))
		want += string([]byte{byte(2*i + 2), 0, 0})
	}
	checkBytes(t, most, want)
	for _, a := range []api.Plan{three(), full()} {
		checkBytes(t, a, string(joined(pieces(a))))
	}
}

// stopBytes is the encoding of the pickups of orders 1 to n.
func stopBytes(n int) string {
	var b []byte
	for id := 1; id <= n; id++ {
		if id >= 64 {
			b = append(b, byte(2*id)|0x80, 1, 0)
			continue
		}
		b = append(b, byte(2*id), 0)
	}
	return string(b)
}

// P9.5: plans that are not right have no bytes, and theirs are refused: as too many, or as not in form.
func TestBytesWrong(t *testing.T) {
	for _, a := range wrongPlans() {
		if b := encode(t, a); len(b) > 0 {
			t.Errorf("Encode(%v) = % x", a, b)
		}
		checkRefused(t, string(joined(pieces(a))), api.ErrForm)
	}
	for _, a := range crowded() {
		if b := encode(t, a); len(b) > 0 {
			t.Errorf("Encode(%v) = % x", a, b)
		}
		checkRefused(t, string(joined(pieces(a))), api.ErrLong)
	}
}

// P9.5: every beginning of an encoded plan that is cut off
func TestDecodeShort(t *testing.T) {
	for b := range encoded(t) {
		for n := range len(b) {
			checkRefused(t, b[:n], api.ErrShort)
		}
	}
	whole := encode(t, full())
	for n := 0; n < len(whole); n += 7 {
		checkRefused(t, string(whole[:n]), api.ErrShort)
	}
	// Even where what is there is not right.
	for _, a := range wrongPlans()[:40] {
		b := joined(pieces(a))
		checkRefused(t, string(b[:len(b)-1]), api.ErrShort)
	}
}

// P9.5: bytes behind the end of an encoded plan, even of one that is not right
func TestDecodeTail(t *testing.T) {
	for b := range encoded(t) {
		for c := range 256 {
			checkRefused(t, b+string([]byte{byte(c)}), api.ErrTail)
		}
		for _, tail := range []string{"\x00\x00", "\x80\x80", b, strings.Repeat("\xff", 1000), strings.Repeat("\x00", 1<<12)} {
			checkRefused(t, b+tail, api.ErrTail)
		}
	}
	for _, a := range wrongPlans() {
		checkRefused(t, string(joined(pieces(a)))+"\x00", api.ErrTail)
	}
	checkRefused(t, string(encode(t, full()))+"\x00", api.ErrTail)
}

// P9.5: each byte of an encoded plan turned into each other one
func TestDecodeTurned(t *testing.T) {
	accepted := 0
	for b, a := range encoded(t) {
		for i := range len(b) {
			for c := range 256 {
				turned := []byte(b)
				turned[i] = byte(c)
				got, why := decode(t, turned)
				if byte(c) == b[i] {
					continue
				}
				if why == api.OK {
					accepted++
				}
				if why == api.OK && same(got, a) {
					t.Errorf("Decode(% x) and Decode(% x) are both %v", b, turned, a)
				}
			}
		}
	}
	if accepted < 500 {
		t.Errorf("only %d were accepted", accepted)
	}
}

// replaced is the bytes of the pieces with other ones at i.
func replaced(l []piece, i int, b []byte) string {
	l = slices.Clone(l)
	l[i].bytes = b
	return string(joined(l))
}

// P9.5: each number of an encoded plan in more bytes than it takes, and in more than there may be
func TestDecodeLongNumbers(t *testing.T) {
	for _, a := range []api.Plan{nil, {route(1, 0)}, example(), three()} {
		l := pieces(a)
		for i, p := range l {
			if p.flag {
				continue
			}
			b := slices.Clone(p.bytes)
			for len(b) < binary.MaxVarintLen64 {
				b[len(b)-1] |= 0x80
				b = append(b, 0)
				checkRefused(t, replaced(l, i, b), api.ErrForm)
			}
			for _, last := range []byte{2, 0x7f, 0x80, 0xff} {
				checkRefused(t, replaced(l, i, append(slices.Repeat([]byte{0x80}, 9), last)), api.ErrForm)
				checkRefused(t, replaced(l, i, append(slices.Repeat([]byte{0xff}, 9), last, 1)), api.ErrForm)
			}
		}
	}
}

// P9.5: each flag of an encoded plan that is none
func TestDecodeFlags(t *testing.T) {
	for _, a := range []api.Plan{example(), three()} {
		l := pieces(a)
		for i, p := range l {
			for c := 2; p.flag && c < 256; c++ {
				checkRefused(t, replaced(l, i, []byte{byte(c)}), api.ErrForm)
			}
		}
	}
}

// P9.5: each count of an encoded plan too great, or less than nothing
func TestDecodeCounts(t *testing.T) {
	for _, a := range []api.Plan{nil, {route(1, 0)}, example(), three()} {
		l := pieces(a)
		for i, p := range l {
			if p.most == 0 {
				continue
			}
			for _, n := range []int{p.most + 1, p.most + 2, 2 * p.most, 1 << 32, 1<<32 + 1, greatest - 1, greatest, -1, -2, -1 << 32, least, least + 1} {
				b := number(n).bytes
				checkRefused(t, replaced(l, i, b), api.ErrLong)
				// The count is refused where it stands, whatever follows it or nothing.
				checkRefused(t, string(joined(l[:i]))+string(b), api.ErrLong)
				checkRefused(t, string(joined(l[:i]))+string(b)+"\xff\xff\xff\xff", api.ErrLong)
			}
			// As many as there may be, but there are fewer.
			checkRefused(t, string(joined(l[:i]))+string(number(p.most).bytes), api.ErrShort)
		}
	}
}

// P9.5: each other number of an encoded plan: those it may not be, which have bytes, and the bounds of those it may be
func TestDecodeNumbers(t *testing.T) {
	for _, a := range []api.Plan{{route(1, 0)}, example(), three()} {
		l := pieces(a)
		for i, p := range l {
			if p.flag || p.most > 0 {
				continue
			}
			for _, n := range append(beyond(), -2, 555, 1, highest) {
				got, why := decode(t, []byte(replaced(l, i, number(n).bytes)))
				if n != 0 && (n < 1 || n > highest) && why != api.ErrForm {
					t.Errorf("%d at %d of %v: %v, %d", n, i, a, got, why)
				}
			}
		}
	}
}

// P9.5: of several errors the one that comes first in the bytes; a plan that is not right is told of last.
func TestDecodeFirst(t *testing.T) {
	for b, why := range map[string]api.Errno{
		"":                                     api.ErrShort,
		"\x80":                                 api.ErrShort,
		"\x80\x00":                             api.ErrForm,
		"\x01":                                 api.ErrLong,
		"\x12":                                 api.ErrLong,
		"\x12\x80\x00":                         api.ErrLong,
		"\x10":                                 api.ErrShort,
		"\x02":                                 api.ErrShort,
		"\x00\x00":                             api.ErrTail,
		"\x00\x80\x00":                         api.ErrTail,
		"\x02\x08\xa2\x01":                     api.ErrLong,
		"\x02\x08\xa0\x01":                     api.ErrShort,
		"\x02\x08\x01\x80\x00":                 api.ErrLong,
		"\x02\x80\x00\x01":                     api.ErrForm,
		"\x02\x08\x02\x00\x02\x02":             api.ErrForm,
		"\x02\x08\x02\x00\x02\x02\x07\x07":     api.ErrForm,
		"\x02\x08\x02\x80\x00\x02\x02":         api.ErrForm,
		"\x02\x00\x02\x00\x02":                 api.ErrShort,
		"\x02\x00\x00\x00\x07":                 api.ErrTail,
		"\x02\x00\x00\x00":                     api.ErrForm,
		"\x04\x08\x00\x00\x06\x00\x00":         api.ErrForm,
		"\x04\x08\x00\x00\x08\x00\x00":         api.ErrForm,
		"\x04\x08\x00\x00\x08\xa2\x01":         api.ErrLong,
		"\x04\x08\x00\x00\x08\x00":             api.ErrShort,
		"\x02\x08\x04\x00\x02\x00\x02\x00":     api.ErrForm,
		"\x02\x08\x04\x00\x02\x00\x02\x01\x00": api.ErrTail,
		"\x02\x08\x02\x04\x02\x00\x00":         api.ErrTail,
		"\x02\x08\x02\x04\x02":                 api.ErrShort,
		"\x02\x08\x02\x04\x02\x03":             api.ErrForm,
		"\x04\x08\x02\x04\x02\x00\x0a\x00\x00": api.ErrForm,
		"\x04\x08\x02\x02\x02\x00\x0a\x00\x02": api.ErrForm,
		"\x04\x08\x02\x02\x02\x00\x0a\x00\x00\x00": api.ErrTail,
	} {
		checkRefused(t, b, why)
	}
}

// P9.5 and P9.6: all sequences of up to six bytes that matter, behind nothing and behind the beginning of a plan
func TestDecodeFewBytes(t *testing.T) {
	matter := []byte{0, 1, 2, 3, 4, 6, 0x80}
	accepted := 0
	var walk func(b []byte, n int)
	walk = func(b []byte, n int) {
		if _, why := decode(t, b); why == api.OK {
			accepted++
		}
		if n == 0 {
			return
		}
		for _, c := range matter {
			walk(append(slices.Clone(b), c), n-1)
		}
	}
	walk(nil, 5)
	walk([]byte("\x02\x02\x04"), 5)
	walk([]byte("\x04\x02\x02\x00\x02\x00"), 5)
	if accepted < 20 {
		t.Errorf("only %d were accepted", accepted)
	}
}
