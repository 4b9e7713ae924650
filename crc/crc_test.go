package crc_test

import (
	"bytes"
	"hash/crc32"
	"math"
	"slices"
	"strings"
	"testing"

	"bagatelle/crc"
)

// noise returns a function that returns numbers, always the same.
func noise() func() uint32 {
	state := uint64(88172645463325252)
	return func() uint32 {
		state ^= state << 13
		state ^= state >> 7
		state ^= state << 17
		return uint32(state >> 16)
	}
}

// some returns n bytes of that noise.
func some(n int, next func() uint32) []byte {
	var b []byte
	for range n {
		b = append(b, byte(next()))
	}
	return b
}

// samples returns many slices of bytes: all of up to one byte, and others of
// each length up to 70, of one value and mixed.
func samples() [][]byte {
	next := noise()
	l := [][]byte{nil, {}}
	for c := range 256 {
		l = append(l, []byte{byte(c)})
	}
	for n := range 71 {
		l = append(l, make([]byte, n), bytes.Repeat([]byte{255}, n))
		for range 3 {
			l = append(l, some(n, next))
		}
	}
	return append(l, []byte("123456789"), []byte("a sealed record"))
}

// plainAdd is the chapter's checksum, bit by bit: of bytes with the checksum
// sum, followed by b.
func plainAdd(sum uint32, b []byte) uint32 {
	rest := sum ^ 0xffffffff
	for i := range 8 * len(b) {
		out := rest&1 ^ uint32(b[i/8]>>(i%8)&1)
		rest >>= 1
		if out == 1 {
			rest ^= 0xedb88320
		}
	}
	return rest ^ 0xffffffff
}

// spare returns b in memory that goes on behind it, and a function that
// reports whether all of that memory is as it was.
func spare(b []byte) ([]byte, func() bool) {
	memory := append(slices.Clone(b), bytes.Repeat([]byte{0xa5}, 20)...)
	before := slices.Clone(memory)
	return memory[:len(b)], func() bool { return bytes.Equal(memory, before) }
}

// separate reports whether an answer shares no memory with its argument, of
// which untouched tells: whatever is written to the answer, or appended to it.
func separate(answer []byte, untouched func() bool) bool {
	for i := range answer {
		answer[i] ^= 0xff
	}
	_ = append(answer, 1, 2, 3, 4)
	return untouched()
}

func TestSum(t *testing.T) {
	for _, c := range []struct {
		text string
		want uint32
	}{
		{"123456789", 0xcbf43926},
		{"", 0},
		{"\x00", 0xd202ef8d},
		{"\x01", 0xa505df1b},
		{"\x80", 0x3fba6cad},
		{"\xff", 0xff000000},
		{"a", 0xe8b7be43},
		{"abc", 0x352441c2},
		{"cba", 0xd8aef480},
		{"The quick brown fox jumps over the lazy dog", 0x414fa339},
		{"\x00\x00\x00\x00", 0x2144df1c},
		{"\xff\xff\xff\xff", 0xffffffff},
		{strings.Repeat("\x00", 32), 0x190a55ad},
		{strings.Repeat("\xff", 32), 0xff6cab0b},
	} {
		if got := crc.Sum([]byte(c.text)); got != c.want {
			t.Errorf("Sum(%q) = %08X, want %08X", c.text, got, c.want)
		}
	}
	if got := crc.Sum(nil); got != 0 {
		t.Errorf("Sum of nil = %08X, want 0", got)
	}
}

func TestSumOfMany(t *testing.T) {
	l := samples()
	for c := range 1 << 16 {
		l = append(l, []byte{byte(c), byte(c >> 8)})
	}
	for _, n := range []int{255, 256, 257, 1000, 16384, 1 << 20} {
		l = append(l, some(n, noise()), make([]byte, n))
	}
	for _, b := range l {
		given, untouched := spare(b)
		got := crc.Sum(given)
		if want := plainAdd(0, b); got != want {
			t.Fatalf("Sum(%x) = %08X, want %08X", b, got, want)
		}
		if want := crc32.ChecksumIEEE(b); got != want {
			t.Fatalf("Sum(%x) = %08X, the library's is %08X", b, got, want)
		}
		if !untouched() {
			t.Fatalf("Sum(%x) changed its argument", b)
		}
	}
}

func TestAdd(t *testing.T) {
	for _, c := range []struct {
		sum  uint32
		text string
		want uint32
	}{
		{0, "", 0},
		{0, "123456789", 0xcbf43926},
		{0xcbf43926, "", 0xcbf43926},
		{0xffffffff, "", 0xffffffff},
		{1, "", 1},
		{0xe8b7be43, "bc", 0x352441c2},   // a, and bc
		{0xd202ef8d, "\x00", 0x41d912ff}, // a 0, and a 0
		{0xffffffff, "\x00", 0xffffffff}, // four times FF, and a 0
	} {
		if got := crc.Add(c.sum, []byte(c.text)); got != c.want {
			t.Errorf("Add(%08X, %q) = %08X, want %08X", c.sum, c.text, got, c.want)
		}
	}
}

// with returns four bytes whose checksum is sum: each number is the checksum
// of some bytes.
func with(sum uint32) []byte {
	rest := ^sum
	for range 32 {
		if rest>>31 == 1 {
			rest = (rest^0xedb88320)<<1 | 1
		} else {
			rest <<= 1
		}
	}
	rest ^= 0xffffffff
	return []byte{byte(rest), byte(rest >> 8), byte(rest >> 16), byte(rest >> 24)}
}

func TestAddToAnySum(t *testing.T) {
	next := noise()
	sums := []uint32{0, 1, 2, 0x80000000, 0xffffffff, 0xfffffffe, 0xcbf43926}
	for range 100 {
		sums = append(sums, next())
	}
	for _, sum := range sums {
		first := with(sum)
		if plainAdd(0, first) != sum {
			t.Fatalf("the checksum of %x isn't %08X", first, sum)
		}
		for _, b := range samples() {
			given, untouched := spare(b)
			got := crc.Add(sum, given)
			if want := crc.Sum(slices.Concat(first, b)); got != want || got != plainAdd(sum, b) {
				t.Fatalf("Add(%08X, %x) = %08X, want %08X", sum, b, got, want)
			}
			if !untouched() {
				t.Fatalf("Add(%08X, %x) changed its argument", sum, b)
			}
		}
	}
}

func TestAddPartByPart(t *testing.T) {
	b := some(40, noise())
	want := crc.Sum(b)
	for i := range len(b) + 1 {
		for j := i; j <= len(b); j++ {
			got := crc.Add(crc.Add(crc.Sum(b[:i]), b[i:j]), b[j:])
			if got != want {
				t.Fatalf("split at %d and %d the checksum is %08X, want %08X", i, j, got, want)
			}
		}
	}
}

func TestSeal(t *testing.T) {
	for _, c := range []struct{ text, want string }{
		{"123456789", "123456789\x26\x39\xf4\xcb"},
		{"", "\x00\x00\x00\x00"},
		{"a", "a\x43\xbe\xb7\xe8"},
		{"\x00", "\x00\x8d\xef\x02\xd2"},
		{"\xff\xff\xff\xff", "\xff\xff\xff\xff\xff\xff\xff\xff"},
	} {
		if got := string(crc.Seal([]byte(c.text))); got != c.want {
			t.Errorf("Seal(%q) = %q, want %q", c.text, got, c.want)
		}
		if got, ok := crc.Open([]byte(c.want)); string(got) != c.text || !ok {
			t.Errorf("Open(%q) = %q, %v, want %q, true", c.want, got, ok, c.text)
		}
	}
	if got := crc.Seal(nil); !bytes.Equal(got, make([]byte, 4)) {
		t.Errorf("Seal of nil = %x, want 00000000", got)
	}
}

func TestSealAndOpen(t *testing.T) {
	l := append(samples(), some(16384, noise()), make([]byte, 16384), crc.Seal([]byte("sealed twice")))
	for _, b := range l {
		given, untouched := spare(b)
		got := crc.Seal(given)
		sum := plainAdd(0, b)
		want := append(slices.Clone(b), byte(sum), byte(sum>>8), byte(sum>>16), byte(sum>>24))
		if !bytes.Equal(got, want) {
			t.Fatalf("Seal(%x) = %x, want %x", b, got, want)
		}
		if !separate(got, untouched) {
			t.Fatalf("Seal(%x) changed or shares its argument", b)
		}
		given, untouched = spare(want)
		got, ok := crc.Open(given)
		if !bytes.Equal(got, b) || !ok {
			t.Fatalf("Open(%x) = %x, %v, want %x, true", want, got, ok, b)
		}
		if !separate(got, untouched) {
			t.Fatalf("Open(%x) changed or shares its argument", want)
		}
	}
}

// closed reports an error if b is opened, or changed by it, or if anything
// comes beside the false.
func closed(t *testing.T, what string, b []byte) {
	t.Helper()
	given, untouched := spare(b)
	if got, ok := crc.Open(given); len(got) != 0 || ok {
		t.Errorf("%s: Open(%x) = %x, %v, want nothing and false", what, b, got, ok)
	}
	if !untouched() {
		t.Errorf("%s: Open(%x) changed its argument", what, b)
	}
}

func TestNotSealed(t *testing.T) {
	for _, c := range []struct{ what, b string }{
		{"nothing", ""},
		{"one byte", "\x00"},
		{"two bytes", "\x00\x00"},
		{"three bytes", "\x00\x00\x00"},
		{"three others", "\xff\xff\xff"},
		{"another checksum of nothing", "\x01\x00\x00\x00"},
		{"another one, in the last byte", "\x00\x00\x00\x80"},
		{"the checksum without inverting at the end", "\xff\xff\xff\xff"},
		{"the highest byte first", "123456789\xcb\xf4\x39\x26"},
		{"the checksum of other bytes", "123456788\x26\x39\xf4\xcb"},
		{"the checksum ahead of the bytes", "\x26\x39\xf4\xcb123456789"},
		{"a byte behind it", "123456789\x26\x39\xf4\xcb\x00"},
		{"a byte ahead of it", "\x00123456789\x26\x39\xf4\xcb"},
		{"a byte less behind", "123456789\x26\x39\xf4"},
		{"a byte less ahead", "23456789\x26\x39\xf4\xcb"},
		{"the bytes alone", "123456789"},
		{"inverted as a whole", "\xd9\xc6\x0b\x34"},
		{"five bytes of 0", "\x00\x00\x00\x00\x00"},
	} {
		closed(t, c.what, []byte(c.b))
	}
	closed(t, "nil", nil)
}

// TestOnlySeals holds Open against the chapter's words, for bytes that differ
// from sealed ones in one byte, in any way.
func TestOnlySeals(t *testing.T) {
	for _, b := range [][]byte{nil, {7}, []byte("abc"), some(20, noise())} {
		sealed := crc.Seal(b)
		for i := range sealed {
			for c := range 256 {
				other := slices.Clone(sealed)
				other[i] = byte(c)
				end := len(other) - 4
				want := bytes.Equal(crc.Seal(other[:end]), other)
				got, ok := crc.Open(other)
				if ok != want || want && !bytes.Equal(got, other[:end]) || !ok && len(got) != 0 {
					t.Fatalf("Open(%x) = %x, %v, want %v", other, got, ok, want)
				}
			}
		}
	}
}

func TestBend(t *testing.T) {
	const all = math.MaxUint32
	for _, c := range []struct {
		b    string
		at   int
		mask uint32
		want string
	}{
		{"\x00\x00", 0, 1, "\x01\x00"},
		{"\x00\x00", 0, 1 << 7, "\x80\x00"},
		{"\x00\x00", 0, 1 << 8, "\x00\x01"},
		{"\x00\x00", 7, 1, "\x80\x00"},
		{"\x00\x00", 8, 1, "\x00\x01"},
		{"\x00\x00", 7, 3, "\x80\x01"},
		{"\xff\xff", 7, 3, "\x7f\xfe"},
		{"\x00\x00", 15, all, "\x00\x80"},
		{"\x00\x00", 16, all, "\x00\x00"},
		{"\x00\x00", 17, all, "\x00\x00"},
		{"\x00\x00", 0, 0xffff0000, "\x00\x00"},
		{"\x00\x00", 0, 0, "\x00\x00"},
		{"\x12\x34", 3, 0, "\x12\x34"},
		{"\x00\x00\x00\x00\x00", 0, all, "\xff\xff\xff\xff\x00"},
		{"\x00\x00\x00\x00\x00", 4, all, "\xf0\xff\xff\xff\x0f"},
		{"\x00\x00\x00\x00\x00", 0, 0x12345678, "\x78\x56\x34\x12\x00"},
		{"\x00\x00\x00\x00\x00", 8, 0x12345678, "\x00\x78\x56\x34\x12"},
		{"\x0f\xf0\xaa\x55\x3c", 0, 0xffff00ff, "\xf0\xf0\x55\xaa\x3c"},
		{"\x00\x00", -1, 1, "\x00\x00"},
		{"\x00\x00", -1, 2, "\x01\x00"},
		{"\x00\x00", -1, all, "\xff\xff"},
		{"\x00\x00", -24, all, "\xff\x00"},
		{"\x00\x00", -31, all, "\x01\x00"},
		{"\x00\x00", -31, 1 << 31, "\x01\x00"},
		{"\x00\x00", -31, 1 << 30, "\x00\x00"},
		{"\x00\x00", -32, all, "\x00\x00"},
		{"\x00\x00", -33, all, "\x00\x00"},
		{"\x00\x00", math.MaxInt, all, "\x00\x00"},
		{"\x00\x00", math.MaxInt - 15, all, "\x00\x00"},
		{"\x00\x00", math.MaxInt - 31, all, "\x00\x00"},
		{"\x00\x00", math.MinInt, all, "\x00\x00"},
		{"\x00\x00", math.MinInt + 31, all, "\x00\x00"},
		{"\x00\x00", 1 << 32, all, "\x00\x00"},
		{"\x00\x00", -1 << 32, all, "\x00\x00"},
		{"", 0, all, ""},
		{"", -5, all, ""},
		{"\x00", -5, all, "\xff"},
		{"\x00", 0, all, "\xff"},
	} {
		if got := string(crc.Bend([]byte(c.b), c.at, c.mask)); got != c.want {
			t.Errorf("Bend(%q, %d, %08X) = %q, want %q", c.b, c.at, c.mask, got, c.want)
		}
	}
	if got := crc.Bend(nil, 0, all); len(got) != 0 {
		t.Errorf("Bend of nil = %x, want nothing", got)
	}
}

// bits returns the bits of b, in the chapter's order.
func bits(b []byte) string {
	text := make([]byte, 8*len(b))
	for i := range text {
		text[i] = '0' + b[i/8]>>(i%8)&1
	}
	return string(text)
}

// plainBend is the chapter's Bend, of bits as a text.
func plainBend(text string, at int, mask uint32) string {
	l := []byte(text)
	for i := range l {
		if i >= at && i-at < 32 && mask>>(i-at)&1 == 1 {
			l[i] ^= '0' ^ '1'
		}
	}
	return string(l)
}

func TestBits(t *testing.T) {
	if got := bits([]byte{1, 6, 128}); got != "100000000110000000000001" {
		t.Errorf("bits(1, 6, 128) = %s", got)
	}
}

func TestBendOfMany(t *testing.T) {
	next := noise()
	for _, b := range [][]byte{{}, {0}, {0xc5}, some(3, next), some(4, next), some(5, next), some(9, next)} {
		for at := -40; at < 8*len(b)+10; at++ {
			for _, mask := range []uint32{0, 1, 1 << 31, 0xaaaaaaaa, math.MaxUint32, next(), next()} {
				given, untouched := spare(b)
				got := crc.Bend(given, at, mask)
				if want := plainBend(bits(b), at, mask); bits(got) != want {
					t.Fatalf("Bend(%x, %d, %08X) = %s, want %s", b, at, mask, bits(got), want)
				}
				if again := crc.Bend(got, at, mask); !bytes.Equal(again, b) {
					t.Fatalf("Bend(%x, %d, %08X) twice = %x", b, at, mask, again)
				}
				if !separate(got, untouched) {
					t.Fatalf("Bend(%x, %d, %08X) changed or shares its argument", b, at, mask)
				}
			}
		}
	}
}

// masks returns masks of each number of consecutive bits, at each place, the
// polynomial's own bits, and many others.
func masks() []uint32 {
	next := noise()
	l := []uint32{0x04c11db7, 0xedb88320, 0x80000001, 0xaaaaaaaa, 0x55555555}
	for from := range 32 {
		for to := from; to < 32; to++ {
			l = append(l, math.MaxUint32<<from&(math.MaxUint32>>(31-to)))
		}
	}
	for range 200 {
		l = append(l, next(), next()&next()&next()|1, next()|next()|1<<31)
	}
	return l
}

func TestBentIsNotOpened(t *testing.T) {
	next := noise()
	for _, b := range [][]byte{nil, {0}, {0xff}, make([]byte, 12), some(12, next), some(25, next)} {
		sealed := crc.Seal(b)
		for at := -33; at <= 8*len(sealed); at++ {
			for _, mask := range masks() {
				bent := crc.Bend(sealed, at, mask)
				same := plainBend(bits(sealed), at, mask) == bits(sealed)
				got, ok := crc.Open(bent)
				if ok != same || !ok && len(got) != 0 {
					t.Fatalf("Open of Bend(%x, %d, %08X) = %x, %v, want %v", sealed, at, mask, got, ok, same)
				}
			}
		}
	}
}

func TestBentAndLong(t *testing.T) {
	next := noise()
	sealed := crc.Seal(some(16384, next))
	end := 8 * len(sealed)
	places := []int{-31, -1, 0, end - 65, end - 33, end - 32, end - 1}
	for range 500 {
		places = append(places, int(next())%end)
	}
	for _, at := range places {
		// Whatever exists of the 32 bits there, at least one of them is inverted.
		mask := next() | 1<<31 | 1
		if got, ok := crc.Open(crc.Bend(sealed, at, mask)); len(got) != 0 || ok {
			t.Fatalf("bent at %d by %08X it is opened", at, mask)
		}
	}
}

// off is the difference between the checksum of sealed bytes and what stands
// behind them: 0 exactly if they are opened.
func off(b []byte) uint32 {
	end := len(b) - 4
	sum := crc.Sum(b[:end])
	for i, c := range b[end:] {
		sum ^= uint32(c) << (8 * i)
	}
	return sum
}

// independent reports whether no exclusive or of some of these numbers is 0.
func independent(l []uint32) bool {
	var lead [32]uint32
	for _, n := range l {
		for bit := 31; bit >= 0 && n != 0; bit-- {
			if n>>bit&1 == 0 {
				continue
			}
			if lead[bit] == 0 {
				lead[bit] = n
				break
			}
			n ^= lead[bit]
		}
		if n == 0 {
			return false
		}
	}
	return true
}

// TestEachMask holds P13.2 for all 2^32 masks at each place: inverting several
// bits makes the difference that is the exclusive or of their own ones, so
// that none of them is 0 if they are independent.
func TestEachMask(t *testing.T) {
	sealed := crc.Seal(some(300, noise()))
	var single []uint32
	for at := range 8 * len(sealed) {
		single = append(single, off(crc.Bend(sealed, at, 1)))
	}
	for at := range len(single) - 31 {
		if !independent(single[at : at+32]) {
			t.Fatalf("some mask at %d changes nothing", at)
		}
		got, want := off(crc.Bend(sealed, at, 0xb00f)), uint32(0)
		for _, i := range []int{0, 1, 2, 3, 12, 13, 15} {
			want ^= single[at+i]
		}
		if got != want {
			t.Fatalf("the bits at %d change the checksum by %08X together, and by %08X one by one", at, got, want)
		}
	}
	if independent([]uint32{3, 5, 6}) || independent([]uint32{0}) || !independent([]uint32{3, 5, 4}) {
		t.Error("independent doesn't tell")
	}
}
