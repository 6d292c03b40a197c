package sum_test

import (
	"bytes"
	"hash/crc32"
	"math/rand"
	"slices"
	"testing"

	"dray/sum"
)

// starts holds checksums that may stand ahead of what is added.
var starts = []uint32{0, 1, 2, 7, 0x7FFFFFFF, 0x80000000, 0xCBF43926, 0xEDB88320, 0x12477CDF, 0xFFFFFFFE, 0xFFFFFFFF}

// generator is what the checksum divides by, from its highest power on: 33 bits, the first in the lowest place.
const generator = 0xEDB88320<<1 | 1

// filler returns n bytes that are the same in every run.
func filler(n int) []byte {
	p := make([]byte, n)
	rand.New(rand.NewSource(int64(n))).Read(p)
	return p
}

// wantSeal is P2.3 with a checksum that this package has not computed.
func wantSeal(p []byte) []byte {
	c := crc32.ChecksumIEEE(p)
	return slices.Concat(p, []byte{byte(c), byte(c >> 8), byte(c >> 16), byte(c >> 24)})
}

// turned returns b with the bits of pattern turned, its lowest at bit number at of b.
func turned(b []byte, at int, pattern uint64) []byte {
	b = slices.Clone(b)
	for ; pattern != 0; pattern >>= 1 {
		b[at/8] ^= byte(pattern&1) << (at % 8)
		at++
	}
	return b
}

func wantRefused(t *testing.T, b []byte) {
	t.Helper()
	if p, ok := sum.Open(b); p != nil || ok {
		t.Errorf("Open(% x) = % x, %v, not nil, false", b, p, ok)
	}
}

func wantOpened(t *testing.T, b, want []byte) {
	t.Helper()
	if p, ok := sum.Open(b); !bytes.Equal(p, want) || !ok {
		t.Errorf("Open(% x) = % x, %v, not % x, true", b, p, ok, want)
	}
}

// P2.1
func TestAdd(t *testing.T) {
	for _, c := range []struct {
		c    uint32
		p    string
		want uint32
	}{
		{0, "", 0},
		{0, "a", 0xE8B7BE43},
		{0, "\x00", 0xD202EF8D},
		{0, "\xff", 0xFF000000},
		{0, "\xff\xff\xff\xff", 0xFFFFFFFF},
		{0, "123456789", 0xCBF43926},
		// From here on the register begins with no bit set: only what p brings is shifted.
		{0xFFFFFFFF, "\x00\x00\x00", 0xFFFFFFFF},
		// The highest bit of a byte is the last to go out: the polynomial is left as it is.
		{0xFFFFFFFF, "\x80", ^uint32(0xEDB88320)},
		// The bit ahead of it goes out one step earlier.
		{0xFFFFFFFF, "\x40", ^uint32(0xEDB88320 >> 1)},
		{0xFFFFFFFF, "\x01", ^uint32(0x77073096)},
		// The register's own bits above the byte move down by eight.
		{^uint32(0xABCDEF00), "\x00", ^uint32(0x00ABCDEF)},
		{^uint32(0xABCDEF5A), "\x5a", ^uint32(0x00ABCDEF)},
	} {
		if got := sum.Add(c.c, []byte(c.p)); got != c.want {
			t.Errorf("Add(%#x, %q) = %#x, not %#x", c.c, c.p, got, c.want)
		}
	}
}

// P2.1: no bytes leave any checksum as it is.
func TestAddNoBytes(t *testing.T) {
	for _, c := range starts {
		for _, p := range [][]byte{nil, {}, make([]byte, 0, 8), []byte("abc")[3:]} {
			if got := sum.Add(c, p); got != c {
				t.Errorf("Add(%#x, no bytes) = %#x", c, got)
			}
		}
	}
	for bit := range 32 {
		if c := uint32(1) << bit; sum.Add(c, nil) != c {
			t.Errorf("Add(%#x, nil) = %#x", c, sum.Add(c, nil))
		}
	}
}

// P2.1, with each byte behind each start, and with more and more bytes
func TestAddAgainstLibrary(t *testing.T) {
	check := func(c uint32, p []byte) {
		if got, want := sum.Add(c, p), crc32.Update(c, crc32.IEEETable, p); got != want {
			t.Errorf("Add(%#x, % x) = %#x, not %#x", c, p, got, want)
		}
	}
	for _, c := range starts {
		for b := range 256 {
			check(c, []byte{byte(b)})
			check(c, []byte{byte(b), 0})
			check(c, []byte{0xff, byte(b)})
		}
		for n := range 100 {
			check(c, filler(n))
			check(c, make([]byte, n))
			check(c, bytes.Repeat([]byte{0xff}, n))
		}
	}
}

// P2.1: the bytes count in their order.
func TestAddInOrder(t *testing.T) {
	if sum.Add(0, []byte("ab")) == sum.Add(0, []byte("ba")) {
		t.Error("Add does not tell ab from ba")
	}
	if got, want := sum.Add(sum.Add(5, []byte("a")), []byte("b")), sum.Add(5, []byte("ab")); got != want {
		t.Errorf("a and then b: %#x, ab: %#x", got, want)
	}
}

// P2.2
func TestOf(t *testing.T) {
	for _, c := range []struct {
		parts [][]byte
		want  uint32
	}{
		{nil, 0},
		{[][]byte{}, 0},
		{[][]byte{nil}, 0},
		{[][]byte{{}}, 0},
		{[][]byte{nil, {}, nil, {}}, 0},
		{[][]byte{[]byte("a")}, 0xE8B7BE43},
		{[][]byte{{0}}, 0xD202EF8D},
		{[][]byte{[]byte("123456789")}, 0xCBF43926},
		{[][]byte{[]byte("1234"), []byte("56789")}, 0xCBF43926},
		{[][]byte{nil, []byte("1234"), nil, []byte("5678"), {}, []byte("9"), nil}, 0xCBF43926},
	} {
		if got := sum.Of(c.parts...); got != c.want {
			t.Errorf("Of(%q) = %#x, not %#x", c.parts, got, c.want)
		}
	}
}

// P2.2: Of begins with 0 and adds part after part.
func TestOfAdds(t *testing.T) {
	var parts [][]byte
	want := uint32(0)
	for n := range 40 {
		if got := sum.Of(parts...); got != want {
			t.Errorf("Of %d parts = %#x, not %#x", n, got, want)
		}
		part := filler(n % 7)
		parts = append(parts, part)
		want = sum.Add(want, part)
	}
	if sum.Of([]byte("a"), []byte("b")) == sum.Of([]byte("b"), []byte("a")) {
		t.Error("Of does not tell the order of its parts")
	}
}

// P2.4: parts count as their concatenation, wherever it is cut.
func TestOfParts(t *testing.T) {
	p := filler(24)
	want := sum.Of(p)
	if want != crc32.ChecksumIEEE(p) {
		t.Errorf("Of(% x) = %#x", p, want)
	}
	for i := range len(p) + 1 {
		for j := i; j <= len(p); j++ {
			if got := sum.Of(p[:i], p[i:j], p[j:]); got != want {
				t.Errorf("cut at %d and %d: %#x, not %#x", i, j, got, want)
			}
		}
	}
	var single [][]byte
	for i := range p {
		single = append(single, p[i:i+1])
	}
	if got := sum.Of(single...); got != want {
		t.Errorf("byte by byte: %#x, not %#x", got, want)
	}
}

// P2.3
func TestSeal(t *testing.T) {
	for _, c := range []struct{ p, want string }{
		{"", "\x00\x00\x00\x00"},
		{"a", "a\x43\xbe\xb7\xe8"},
		{"\x00", "\x00\x8d\xef\x02\xd2"},
		{"\xff\xff\xff\xff", "\xff\xff\xff\xff\xff\xff\xff\xff"},
		{"123456789", "123456789\x26\x39\xf4\xcb"},
	} {
		if got := sum.Seal([]byte(c.p)); string(got) != c.want {
			t.Errorf("Seal(%q) = % x, not % x", c.p, got, c.want)
		}
	}
	if got := sum.Seal(nil); string(got) != "\x00\x00\x00\x00" {
		t.Errorf("Seal(nil) = % x", got)
	}
	for n := range 300 {
		if p := filler(n); !bytes.Equal(sum.Seal(p), wantSeal(p)) {
			t.Errorf("Seal(% x) = % x", p, sum.Seal(p))
		}
	}
}

// P2.3
func TestOpen(t *testing.T) {
	for _, c := range []struct{ b, want string }{
		{"\x00\x00\x00\x00", ""},
		{"a\x43\xbe\xb7\xe8", "a"},
		{"\x00\x8d\xef\x02\xd2", "\x00"},
		{"\xff\xff\xff\xff\xff\xff\xff\xff", "\xff\xff\xff\xff"},
		{"123456789\x26\x39\xf4\xcb", "123456789"},
	} {
		wantOpened(t, []byte(c.b), []byte(c.want))
	}
}

// P2.3, P2.4: what is sealed is opened, also if it is sealed itself.
func TestOpenSealed(t *testing.T) {
	for n := range 300 {
		p := filler(n)
		once := sum.Seal(p)
		wantOpened(t, once, p)
		wantOpened(t, wantSeal(p), p)
		wantOpened(t, sum.Seal(once), once)
	}
}

// P2.3: fewer bytes than a checksum has were never sealed.
func TestOpenShort(t *testing.T) {
	wantRefused(t, nil)
	for n := range 4 {
		wantRefused(t, make([]byte, n))
		wantRefused(t, bytes.Repeat([]byte{0xff}, n))
		// What lies behind the end would make it whole, but is not read.
		wantRefused(t, make([]byte, n, 8))
		wantRefused(t, sum.Seal([]byte("a"))[:n])
		wantRefused(t, sum.Seal([]byte("a"))[5-n:])
	}
}

// P2.3: of four bytes only the seal of no bytes opens.
func TestOpenFour(t *testing.T) {
	for bit := range 32 {
		wantRefused(t, turned(make([]byte, 4), bit, 1))
	}
	for n := range 1000 {
		b := filler(n + 4)[:4]
		if !bytes.Equal(b, make([]byte, 4)) {
			wantRefused(t, b)
		}
	}
	wantRefused(t, []byte{0xff, 0xff, 0xff, 0xff})
	wantOpened(t, make([]byte, 4), nil)
}

// P2.3: wrong inputs
func TestOpenWrong(t *testing.T) {
	p := []byte("123456789")
	b := sum.Seal(p)
	for _, wrong := range [][]byte{
		p,
		make([]byte, 5),
		make([]byte, 8),
		{0xff, 0xff, 0xff, 0xff, 0xff},
		// the bytes of the checksum the other way round
		[]byte("123456789\xcb\xf4\x39\x26"),
		[]byte("a\xe8\xb7\xbe\x43"),
		// its bits inverted
		[]byte("123456789\xd9\xc6\x0b\x34"),
		// its bytes ahead of the others
		slices.Concat(b[9:], p),
		// a byte less, a byte more
		b[:12], b[1:],
		slices.Concat(b, []byte{0}), slices.Concat([]byte{0}, b),
		slices.Concat(p, []byte{0}, b[9:]), slices.Concat(p[:8], b[9:]),
		// sealed bytes behind sealed bytes, and two bytes in each other's place
		slices.Concat(b, b),
		[]byte("213456789\x26\x39\xf4\xcb"),
	} {
		wantRefused(t, wrong)
	}
}

// P2.3: Open takes just what Seal makes.
func TestOpenIsExact(t *testing.T) {
	for n := range 400 {
		b := filler(n)
		p, ok := sum.Open(b)
		if want := n >= 4 && bytes.Equal(b, wantSeal(b[:n-4])); ok != want || !want && p != nil {
			t.Errorf("Open(% x) = % x, %v", b, p, ok)
		}
	}
}

// P2.4: one changed bit
func TestOneChangedBit(t *testing.T) {
	for _, n := range []int{0, 1, 2, 3, 4, 5, 31, 64, 500} {
		b := sum.Seal(filler(n))
		for at := range 8 * len(b) {
			wantRefused(t, turned(b, at, 1))
		}
	}
}

// inner returns what may stand within a run of width bits: none, all, and some in between.
func inner(width int, r *rand.Rand) []uint64 {
	all := uint64(1)<<width - 1
	l := []uint64{0, all, 0xAAAAAAAA & all, 0x55555555 & all, 0xEDB88320 & all, 0xEDB88320 >> (32 - width) & all}
	for range 6 {
		l = append(l, r.Uint64()&all)
	}
	return l
}

// P2.4: changed bits within 2 to 32 consecutive bits, from the first bit to the last: in the bytes that were sealed, in
// the checksum, and across both
func TestBursts(t *testing.T) {
	r := rand.New(rand.NewSource(1))
	for _, n := range []int{0, 1, 3, 4, 9, 20} {
		b := sum.Seal(filler(n))
		for width := 2; width <= 32; width++ {
			for at := range 8*len(b) - width + 1 {
				for _, mid := range inner(width-2, r) {
					wantRefused(t, turned(b, at, 1|mid<<1|1<<(width-1)))
				}
			}
		}
	}
}

// P2.4, the same of a longer sequence: its beginning, its midst and its end
func TestBurstsInLongSequence(t *testing.T) {
	b := sum.Seal(filler(5000))
	last := 8*len(b) - 32
	for _, at := range []int{0, 1, 7, 8, last / 2, last/2 + 3, last - 33, last - 32, last - 1, last} {
		for _, pattern := range []uint64{1, 3, 0x80000001, 0xEDB88320, 0xFFFFFFFF} {
			wantRefused(t, turned(b, at, pattern))
		}
	}
}

// P2.1, P2.3: the generator takes 33 bits, one more than P2.4 speaks of; turned by it, a sealed sequence is the seal of
// other bytes.
func TestGeneratorPasses(t *testing.T) {
	b := sum.Seal(filler(20))
	for at := range 8*len(b) - 32 {
		c := turned(b, at, generator)
		wantOpened(t, c, c[:20])
	}
}

// The chapter's example runs.
func TestExampleRuns(t *testing.T) {
	for i, got := range []uint32{sum.Of([]byte("123456789")), sum.Of([]byte("1234"), []byte("56789"))} {
		if got != 0xCBF43926 {
			t.Errorf("run %d: %#x", i, got)
		}
	}
	if got := sum.Of(); got != 0 {
		t.Errorf("Of() = %#x", got)
	}
	none := sum.Seal(nil)
	if !bytes.Equal(none, []byte{0, 0, 0, 0}) {
		t.Errorf("Seal of no bytes = % x", none)
	}
	wantOpened(t, none, nil)
	wantRefused(t, []byte{1, 2, 3})
	wantOpened(t, []byte{0x61, 0x43, 0xBE, 0xB7, 0xE8}, []byte{0x61})
	wantRefused(t, []byte{0x61, 0x43, 0xBE, 0xB7, 0xE9})
}

// R2 and R5: what is handed in stays as it is, and what lies behind it is neither read nor written.
func TestArgumentsStay(t *testing.T) {
	whole := []byte("abcdefghijkl")
	p := whole[2:5]
	parts := [][]byte{p, whole[5:6], nil, []byte("beyond")}
	if got, want := sum.Of(parts[:2]...), crc32.ChecksumIEEE([]byte("cdef")); got != want {
		t.Errorf("Of pieces = %#x, not %#x", got, want)
	}
	if got, want := sum.Add(9, p), crc32.Update(9, crc32.IEEETable, []byte("cde")); got != want {
		t.Errorf("Add of a piece = %#x, not %#x", got, want)
	}
	if got := sum.Seal(p); !bytes.Equal(got, wantSeal([]byte("cde"))) {
		t.Errorf("Seal of a piece = % x", got)
	}
	if string(whole) != "abcdefghijkl" || string(parts[3]) != "beyond" || parts[2] != nil {
		t.Errorf("the bytes are now %q, the parts %q", whole, parts)
	}
	room := slices.Concat(wantSeal([]byte("abc")), []byte("rest"))
	wantOpened(t, room[:7], []byte("abc"))
	wantRefused(t, room[:6])
	if !bytes.Equal(room, slices.Concat(wantSeal([]byte("abc")), []byte("rest"))) {
		t.Errorf("the sealed bytes are now % x", room)
	}
}

// overwrite writes over all that a slice reaches, its unused capacity too.
func overwrite(b []byte) {
	b = b[:cap(b)]
	for i := range b {
		b[i] = '#'
	}
}

// R2: an answer shares no memory with what was handed in, nor with another answer.
func TestAnswersAreNew(t *testing.T) {
	for _, n := range []int{0, 1, 3, 4, 12, 13, 200} {
		p := append(make([]byte, 0, n+64), filler(n)...)
		b, other := sum.Seal(p), sum.Seal(p)
		overwrite(b)
		if !bytes.Equal(p, filler(n)) || !bytes.Equal(p[n:n+64], make([]byte, 64)) || !bytes.Equal(other, wantSeal(p)) {
			t.Errorf("writing over a seal of %d bytes is seen elsewhere", n)
		}
		opened, _ := sum.Open(other)
		again, _ := sum.Open(other)
		overwrite(opened)
		if !bytes.Equal(other, wantSeal(p)) || !bytes.Equal(again, p) {
			t.Errorf("writing over %d opened bytes is seen elsewhere", n)
		}
		overwrite(p)
		overwrite(other)
		if !bytes.Equal(again, filler(n)) {
			t.Errorf("%d opened bytes change with what they were opened from", n)
		}
	}
}

// Nothing is kept from call to call.
func TestCallsDoNotTouchEachOther(t *testing.T) {
	first := sum.Of([]byte("dray"))
	sum.Add(5, []byte("between"))
	sum.Seal([]byte("between"))
	sum.Open([]byte("between"))
	if again := sum.Of([]byte("dray")); again != first {
		t.Errorf("Of is %#x, later %#x", first, again)
	}
}

// As many bytes as a disk holds, and as many parts.
func TestLong(t *testing.T) {
	p := filler(1 << 20)
	b := sum.Seal(p)
	if !bytes.Equal(b, wantSeal(p)) {
		t.Error("Seal of many bytes has another checksum")
	}
	wantOpened(t, b, p)
	parts := slices.Repeat([][]byte{[]byte("x"), nil}, 100000)
	if got, want := sum.Of(parts...), crc32.ChecksumIEEE(bytes.Repeat([]byte("x"), 100000)); got != want {
		t.Errorf("Of many parts = %#x, not %#x", got, want)
	}
}
