package frame_test

import (
	"bytes"
	"fmt"
	"math"
	"slices"
	"testing"

	"bagatelle/api"
	"bagatelle/frame"
)

// A pair is a record and its encoding.
type pair struct {
	n       int
	payload string
	bytes   string // in base 16
}

// pairs returns records whose encodings were computed by another program.
func pairs() []pair {
	return []pair{
		{1, "", "00000000 0100000000000000 f1c67fb7 00000000"},
		{0, "", "00000000 0000000000000000 6fc6d57b 00000000"},
		{258, "abc", "03000000 0201000000000000 561819e8 616263 c2412435"},
		{math.MaxInt, "\xff", "01000000 ffffffffffffff7f 5509ae49 ff 000000ff"},
		{1 << 62, "\x00\x00\x00\x00\x00", "05000000 0000000000000040 eff0aa95 0000000000 1df722c6"},
		{7, "123456789", "09000000 0700000000000000 e7f5b9ec 313233343536373839 2639f4cb"},
		{1 << 32, "\x00\x01\x02\x03", "04000000 0000000001000000 759a6fc0 00010203 1386b98b"},
	}
}

func TestConstants(t *testing.T) {
	if frame.Head != 16 || frame.Tail != 4 || frame.MaxWorld != 1<<24 {
		t.Errorf("Head %d, Tail %d, MaxWorld %d, want 16, 4, 2^24", frame.Head, frame.Tail, frame.MaxWorld)
	}
}

func TestBytes(t *testing.T) {
	for _, c := range pairs() {
		if got := frame.Bytes(c.n, []byte(c.payload)); !bytes.Equal(got, bytesOf(c.bytes)) {
			t.Errorf("Bytes(%d, %q) = %x, want %s", c.n, c.payload, got, c.bytes)
		}
	}
	if got := frame.Bytes(1, nil); !bytes.Equal(got, bytesOf(pairs()[0].bytes)) || len(got) != 20 {
		t.Errorf("Bytes(1, nil) = %x", got)
	}
	got := frame.Bytes(3, make([]byte, 300))
	want := slices.Concat(bytesOf("2c010000 0300000000000000 3588ef29"), make([]byte, 300), bytesOf("d28f34b5"))
	if !bytes.Equal(got, want) {
		t.Errorf("Bytes(3, 300 bytes) = %x, want %x", got, want)
	}
}

func TestRecordsAreReadBack(t *testing.T) {
	for _, c := range pairs() {
		b := bytesOf(c.bytes)
		want := frame.Record{Num: c.n, Payload: []byte(c.payload)}
		if r, n, ok := frame.Next(b, 100); !same(r, want) || n != len(b) || !ok {
			t.Errorf("Next(%x) = %v, %d, %v, want %v, %d, true", b, r, n, ok, want, len(b))
		}
		if r, ok := frame.One(b, 100); !same(r, want) || !ok {
			t.Errorf("One(%x) = %v, %v, want %v, true", b, r, ok, want)
		}
		if l, n := frame.All(b, 100); len(l) != 1 || !same(l[0], want) || n != len(b) {
			t.Errorf("All(%x) = %v, %d, want %v, %d", b, l, n, want, len(b))
		}
		more := append(slices.Clone(b), 0)
		if r, n, ok := frame.Next(more, 100); !same(r, want) || n != len(b) || !ok {
			t.Errorf("Next(%x) = %v, %d, %v, want %v, %d, true", more, r, n, ok, want, len(b))
		}
		if r, ok := frame.One(more, 100); !same(r, frame.Record{}) || ok {
			t.Errorf("One(%x) = %v, %v, want nothing and false", more, r, ok)
		}
		if l, n := frame.All(more, 100); len(l) != 1 || !same(l[0], want) || n != len(b) {
			t.Errorf("All(%x) = %v, %d, want %v, %d", more, l, n, want, len(b))
		}
	}
}

// TestEachSize has payloads of many lengths, of one value and mixed, with many
// numbers, and each bound around the length.
func TestEachSize(t *testing.T) {
	next := noise()
	for size := range 70 {
		for _, payload := range [][]byte{make([]byte, size), bytes.Repeat([]byte{255}, size), some(size, next)} {
			for _, n := range append(numbers(), int(next()>>1), int(next()>>40)) {
				given, untouched := spare(payload)
				b := frame.Bytes(n, given)
				if !bytes.Equal(b, plainBytes(n, payload)) {
					t.Fatalf("Bytes(%d, %x) = %x, want %x", n, payload, b, plainBytes(n, payload))
				}
				scribble(b)
				if !untouched() {
					t.Fatalf("Bytes(%d, %x) changed or shares its argument", n, payload)
				}
				what := fmt.Sprintf("Bytes(%d, %x)", n, payload)
				for _, most := range bounds(size) {
					holds(t, what, plainBytes(n, payload), most)
				}
			}
		}
	}
}

// TestMost has payloads at the bounds of a journal and of a checkpoint, and one
// byte beyond.
func TestMost(t *testing.T) {
	for _, most := range []int{0, 1, 255, 256, 65535, 65536, api.MaxBatch, frame.MaxWorld} {
		within, beyond := frame.Bytes(9, make([]byte, most)), frame.Bytes(9, make([]byte, most+1))
		if r, n, ok := frame.Next(within, most); r.Num != 9 || len(r.Payload) != most || n != most+20 || !ok {
			t.Errorf("%d bytes, at most as many: Next = %d, %d bytes, %d, %v", most, r.Num, len(r.Payload), n, ok)
		}
		if r, ok := frame.One(within, most); r.Num != 9 || len(r.Payload) != most || !ok {
			t.Errorf("%d bytes, at most as many: One = %d, %d bytes, %v", most, r.Num, len(r.Payload), ok)
		}
		if l, n := frame.All(within, most); len(l) != 1 || n != most+20 {
			t.Errorf("%d bytes, at most as many: All = %d records, %d", most, len(l), n)
		}
		if r, n, ok := frame.Next(beyond, most); r.Num != 0 || len(r.Payload) != 0 || n != 0 || ok {
			t.Errorf("%d bytes, at most %d: Next = %d, %d bytes, %d, %v", most+1, most, r.Num, len(r.Payload), n, ok)
		}
		if r, ok := frame.One(beyond, most); r.Num != 0 || len(r.Payload) != 0 || ok {
			t.Errorf("%d bytes, at most %d: One = %d, %d bytes, %v", most+1, most, r.Num, len(r.Payload), ok)
		}
		if l, n := frame.All(beyond, most); len(l) != 0 || n != 0 {
			t.Errorf("%d bytes, at most %d: All = %d records, %d", most+1, most, len(l), n)
		}
	}
}

// TestNoneAtMost: a bound below 0 leaves no record, not even one without a
// payload.
func TestNoneAtMost(t *testing.T) {
	for _, most := range []int{-1, -2, -20, math.MinInt} {
		nothing(t, "at most less than 0", frame.Bytes(1, nil), most)
		nothing(t, "at most less than 0", frame.Bytes(1, []byte("abc")), most)
	}
}

// TestNotARecord has bytes that aren't the encoding of a record, most of them
// with checksums that fit.
func TestNotARecord(t *testing.T) {
	abc := []byte("abc")
	head, tail := plainHead(3, 258), sum(abc)
	backwards := func(b []byte) []byte {
		b = slices.Clone(b)
		slices.Reverse(b)
		return b
	}
	inverted := func(b []byte) []byte {
		b = slices.Clone(b)
		for i := range b {
			b[i] ^= 0xff
		}
		return b
	}
	sealed := func(b []byte) []byte { return append(slices.Clone(b), sum(b)...) }
	list := []struct {
		what string
		b    []byte
	}{
		{"nothing", nil},
		{"a negative number", plainBytes(-1, abc)},
		{"the least number", plainBytes(math.MinInt, abc)},
		{"a negative number without a payload", plainBytes(-1, nil)},
		{"a negative number whose lowest bytes are 0", plainBytes(-1<<32, abc)},
		{"a length more than there is", slices.Concat(plainHead(4, 258), abc, tail)},
		{"five bytes more than there are", slices.Concat(plainHead(8, 258), abc, tail)},
		{"a length of 2^31 - 1", slices.Concat(plainHead(1<<31-1, 258), abc, tail)},
		{"a length of 2^31", slices.Concat(plainHead(1<<31, 258), abc, tail)},
		{"a length of 2^32 - 1", slices.Concat(plainHead(1<<32-1, 258), abc, tail)},
		{"a length of 2^32 - 16", slices.Concat(plainHead(1<<32-16, 258), abc, tail)},
		{"a length of 2^32 - 20", slices.Concat(plainHead(1<<32-20, 258), abc, tail)},
		{"a length less than there is", slices.Concat(plainHead(2, 258), abc, tail)},
		{"a length of 0", slices.Concat(plainHead(0, 258), abc, tail)},
		{"another length in the head", slices.Concat(num(4, 2), head[4:], abc, tail)},
		{"another number in the head", slices.Concat(num(4, 3), num(8, 259), head[12:], abc, tail)},
		{"the head's checksum is 0", slices.Concat(head[:12], num(4, 0), abc, tail)},
		{"the head's checksum isn't inverted", slices.Concat(head[:12], inverted(head[12:]), abc, tail)},
		{"the head's checksum, the highest byte first", slices.Concat(head[:12], backwards(head[12:]), abc, tail)},
		{"the payload's checksum is 0", slices.Concat(head, abc, num(4, 0))},
		{"the payload's checksum, the highest byte first", slices.Concat(head, abc, backwards(tail))},
		{"the checksum of all", slices.Concat(head, abc, sum(slices.Concat(head, abc)))},
		{"the payload's checksum goes on from the head's", slices.Concat(head, abc, sum(slices.Concat(head[:12], abc)))},
		{"the checksum ahead of the payload", slices.Concat(head, tail, abc)},
		{"another payload", slices.Concat(head, []byte("abd"), tail)},
		{"the payload ahead of the head", slices.Concat(abc, tail, head)},
		{"the number ahead of the length", slices.Concat(sealed(slices.Concat(num(8, 258), num(4, 3))), abc, tail)},
		{"the length, the highest byte first", slices.Concat(sealed(slices.Concat(backwards(num(4, 3)), num(8, 258))), abc, tail)},
		{"a length of two bytes", slices.Concat(sealed(slices.Concat(num(2, 3), num(8, 258))), abc, tail)},
		{"a length of eight bytes", slices.Concat(sealed(slices.Concat(num(8, 3), num(8, 258))), abc, tail)},
		{"a number of four bytes", slices.Concat(sealed(slices.Concat(num(4, 3), num(4, 258))), abc, tail)},
		{"no checksum of the head", slices.Concat(head[:12], abc, tail)},
		{"no checksum of the payload", slices.Concat(head, abc)},
		{"no checksum of no payload", plainHead(0, 258)},
		{"a byte ahead", slices.Concat([]byte{0}, head, abc, tail)},
		{"a byte less ahead", slices.Concat(head[1:], abc, tail)},
		{"twenty zeros", make([]byte, 20)},
		{"a thousand zeros", make([]byte, 1000)},
		{"twenty times FF", bytes.Repeat([]byte{255}, 20)},
	}
	for _, c := range list {
		for _, behind := range [][]byte{nil, {0}, frame.Bytes(1, nil), frame.Bytes(258, abc)} {
			for _, most := range []int{3, 100, 1 << 32, math.MaxInt} {
				nothing(t, c.what, c.b, most)
				// With what follows, some may be a record after all.
				holds(t, c.what, slices.Concat(c.b, behind), most)
			}
		}
	}
}

// TestEachPrefix has parts of records, in memory that goes on with the rest.
func TestEachPrefix(t *testing.T) {
	for _, size := range []int{0, 1, 3, 4, 5, 30} {
		b := frame.Bytes(6, some(size, noise()))
		for i := range b {
			nothing(t, "a prefix", b[:i], 100)
			two := slices.Concat(b, b)
			l, n := frame.All(two[:len(b)+i], 100)
			if len(l) != 1 || n != len(b) {
				t.Errorf("All of a record and %d bytes of %x = %v, %d", i, b, l, n)
			}
		}
	}
}

// TestEachByte has records that differ in one byte, in any way.
func TestEachByte(t *testing.T) {
	for _, size := range []int{0, 1, 2, 17} {
		b := frame.Bytes(300, some(size, noise()))
		for i := range b {
			for c := range 256 {
				other := slices.Clone(b)
				other[i] = byte(c)
				if byte(c) != b[i] {
					nothing(t, "another byte", other, 100)
				}
			}
		}
	}
}

// TestEveryHead has heads with fitting checksums of any length and number,
// ahead of bytes that fit or don't.
func TestEveryHead(t *testing.T) {
	next := noise()
	for range 3000 {
		size, n := upTo(40, next), int(next())
		if upTo(8, next) == 0 {
			size = int(next() >> 32)
		}
		payload := some(upTo(40, next), next)
		b := slices.Concat(plainHead(size, n), payload, sum(payload), some(upTo(3, next), next))
		holds(t, "any head", b, upTo(60, next)-5)
		holds(t, "any head", b, math.MaxInt)
	}
}

// TestNoise has bytes of any kind: the calls end, and don't panic.
func TestNoise(t *testing.T) {
	next := noise()
	for range 20000 {
		b := some(upTo(60, next), next)
		nothing(t, "noise", b, math.MaxInt)
		nothing(t, "noise", b, upTo(100, next)-50)
	}
}

// TestNegativeNumbers: the document leaves Bytes of these open, but for P0, and
// nothing reads them back.
func TestNegativeNumbers(t *testing.T) {
	for _, n := range []int{-1, math.MinInt, -1 << 32} {
		nothing(t, "Bytes of a negative number", frame.Bytes(n, []byte("abc")), math.MaxInt)
	}
}
