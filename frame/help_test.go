package frame_test

import (
	"bytes"
	"encoding/binary"
	"encoding/hex"
	"hash/crc32"
	"math"
	"slices"
	"strings"
	"testing"

	"bagatelle/frame"
)

// noise returns a function that returns numbers, always the same.
func noise() func() uint64 {
	state := uint64(88172645463325252)
	return func() uint64 {
		state ^= state << 13
		state ^= state >> 7
		state ^= state << 17
		return state
	}
}

// some returns n bytes of that noise.
func some(n int, next func() uint64) []byte {
	var b []byte
	for range n {
		b = append(b, byte(next()>>30))
	}
	return b
}

// upTo returns a number from 0 to n - 1.
func upTo(n int, next func() uint64) int {
	return int(next() >> 20 % uint64(n))
}

// bytesOf returns the bytes that the text gives in base 16, with blanks anywhere.
func bytesOf(text string) []byte {
	b, err := hex.DecodeString(strings.Join(strings.Fields(text), ""))
	if err != nil {
		panic(err)
	}
	return b
}

// num returns the lowest n bytes of x, the lowest one first.
func num(n, x int) []byte {
	return binary.LittleEndian.AppendUint64(nil, uint64(x))[:n]
}

// sum returns the checksum of b in four bytes.
func sum(b []byte) []byte {
	return num(4, int(crc32.ChecksumIEEE(b)))
}

// plainHead is the chapter's head of a record, with any length and number.
func plainHead(size, n int) []byte {
	head := slices.Concat(num(4, size), num(8, n))
	return append(head, sum(head)...)
}

// plainBytes is the chapter's encoding of a record, also of a negative number.
func plainBytes(n int, payload []byte) []byte {
	return slices.Concat(plainHead(len(payload), n), payload, sum(payload))
}

// plainNext is the chapter's Next: if there is a record, the bytes begin with
// the encoding of what their length and their number say.
func plainNext(b []byte, most int) (frame.Record, int, bool) {
	if len(b) < 20 {
		return frame.Record{}, 0, false
	}
	size, n := int(binary.LittleEndian.Uint32(b)), int(binary.LittleEndian.Uint64(b[4:]))
	if n < 0 || size > most || size > len(b)-20 {
		return frame.Record{}, 0, false
	}
	payload := b[16 : 16+size]
	if !bytes.HasPrefix(b, plainBytes(n, payload)) {
		return frame.Record{}, 0, false
	}
	return frame.Record{Num: n, Payload: payload}, size + 20, true
}

// plainAll is the chapter's All.
func plainAll(b []byte, most int) ([]frame.Record, int) {
	var l []frame.Record
	end := 0
	for {
		r, n, ok := plainNext(b[end:], most)
		if !ok {
			return l, end
		}
		l = append(l, r)
		end += n
	}
}

// same reports whether both have the same number and payload.
func same(a, b frame.Record) bool {
	return a.Num == b.Num && bytes.Equal(a.Payload, b.Payload)
}

// spare returns b in memory that goes on behind it, and a function that
// reports whether all of that memory is as it was.
func spare(b []byte) ([]byte, func() bool) {
	memory := append(slices.Clone(b), bytes.Repeat([]byte{0xa5}, 40)...)
	before := slices.Clone(memory)
	return memory[:len(b)], func() bool { return bytes.Equal(memory, before) }
}

// scribble writes to an answer, and appends to it.
func scribble(answer []byte) {
	for i := range answer {
		answer[i] ^= 0xff
	}
	_ = append(answer, 1, 2, 3, 4)
}

// holds reports an error if Next, All and One don't answer for b and most by
// the chapter's words, or change b, or if an answer shares memory with b or
// with another one.
func holds(t *testing.T, what string, b []byte, most int) {
	t.Helper()
	given, untouched := spare(b)
	r, n, ok := frame.Next(given, most)
	wantR, wantN, wantOK := plainNext(b, most)
	if !same(r, wantR) || n != wantN || ok != wantOK {
		t.Fatalf("%s: Next(%x, %d) = %v, %d, %v, want %v, %d, %v", what, b, most, r, n, ok, wantR, wantN, wantOK)
	}
	one, ok := frame.One(given, most)
	wantOK = wantOK && wantN == len(b)
	if !wantOK {
		wantR = frame.Record{}
	}
	if !same(one, wantR) || ok != wantOK {
		t.Fatalf("%s: One(%x, %d) = %v, %v, want %v, %v", what, b, most, one, ok, wantR, wantOK)
	}
	l, n := frame.All(given, most)
	wantL, wantN := plainAll(b, most)
	if !slices.EqualFunc(l, wantL, same) || n != wantN {
		t.Fatalf("%s: All(%x, %d) = %v, %d, want %v, %d", what, b, most, l, n, wantL, wantN)
	}
	scribble(r.Payload)
	scribble(one.Payload)
	for i := range l {
		if !same(l[i], wantL[i]) {
			t.Fatalf("%s: All(%x, %d): a payload shares memory", what, b, most)
		}
		scribble(l[i].Payload)
	}
	if !untouched() {
		t.Fatalf("%s: %x with %d: a call changed or shares its argument", what, b, most)
	}
}

// nothing reports an error if there is a record at the beginning of b, or
// anything else beside the false.
func nothing(t *testing.T, what string, b []byte, most int) {
	t.Helper()
	if r, n, ok := frame.Next(b, most); r.Num != 0 || len(r.Payload) != 0 || n != 0 || ok {
		t.Fatalf("%s: Next(%x, %d) = %v, %d, %v, want nothing, 0 and false", what, b, most, r, n, ok)
	}
	if r, ok := frame.One(b, most); r.Num != 0 || len(r.Payload) != 0 || ok {
		t.Fatalf("%s: One(%x, %d) = %v, %v, want nothing and false", what, b, most, r, ok)
	}
	if l, n := frame.All(b, most); len(l) != 0 || n != 0 {
		t.Fatalf("%s: All(%x, %d) = %v, %d, want nothing and 0", what, b, most, l, n)
	}
	holds(t, what, b, most)
}

// bounds returns numbers of bytes that a payload may have at most, among them
// those around size.
func bounds(size int) []int {
	return []int{
		math.MinInt, -1 << 32, -1, 0, 1, size - 1, size, size + 1,
		16384, frame.MaxWorld, 1 << 32, math.MaxInt,
	}
}

// numbers returns numbers of records, up to the greatest one.
func numbers() []int {
	return []int{0, 1, 2, 255, 256, 258, 1<<31 - 1, 1 << 31, 1<<32 - 1, 1 << 32, 1 << 62, math.MaxInt}
}
