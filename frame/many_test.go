package frame_test

import (
	"bytes"
	"fmt"
	"math"
	"slices"
	"testing"

	"bagatelle/frame"
)

func TestAll(t *testing.T) {
	one, two, three := frame.Bytes(1, []byte("first")), frame.Bytes(2, nil), frame.Bytes(3, []byte("the third"))
	broken := slices.Clone(two)
	broken[4] ^= 1
	for _, c := range []struct {
		what    string
		b       []byte
		most    int
		numbers []int
		size    int
	}{
		{"nothing", nil, 100, nil, 0},
		{"one", one, 100, []int{1}, 25},
		{"two", slices.Concat(one, two), 100, []int{1, 2}, 45},
		{"three", slices.Concat(one, two, three), 100, []int{1, 2, 3}, 74},
		{"those without a payload", slices.Concat(two, two, two, two), 100, []int{2, 2, 2, 2}, 80},
		{"in any order", slices.Concat(three, one, one, two), 100, []int{3, 1, 1, 2}, 99},
		{"a byte behind", slices.Concat(one, two, []byte{0}), 100, []int{1, 2}, 45},
		{"a byte ahead", slices.Concat([]byte{0}, one, two), 100, nil, 0},
		{"a byte between", slices.Concat(one, []byte{0}, two), 100, []int{1}, 25},
		{"a broken one in the middle", slices.Concat(one, broken, three), 100, []int{1}, 25},
		{"a broken one at the beginning", slices.Concat(broken, one, three), 100, nil, 0},
		{"a broken one at the end", slices.Concat(one, three, broken), 100, []int{1, 3}, 54},
		{"a negative number in the middle", slices.Concat(one, plainBytes(-1, nil), three), 100, []int{1}, 25},
		{"one that is too long at the end", slices.Concat(one, two, three), 8, []int{1, 2}, 45},
		{"one that is too long in the middle", slices.Concat(one, three, two), 8, []int{1}, 25},
		{"one that is too long at the beginning", slices.Concat(three, one, two), 8, nil, 0},
		{"exactly as long as may be", slices.Concat(one, two, three), 9, []int{1, 2, 3}, 74},
		{"only those without a payload", slices.Concat(two, two, one, two), 0, []int{2, 2}, 40},
		{"none may be", slices.Concat(two, two), -1, nil, 0},
		{"any length may be", slices.Concat(one, two, three), math.MaxInt, []int{1, 2, 3}, 74},
		{"records in a payload", frame.Bytes(9, slices.Concat(one, two)), 100, []int{9}, 65},
		{"half a record at the end", slices.Concat(one, three[:20]), 100, []int{1}, 25},
	} {
		l, n := frame.All(c.b, c.most)
		var numbers []int
		for _, r := range l {
			numbers = append(numbers, r.Num)
		}
		if !slices.Equal(numbers, c.numbers) || n != c.size {
			t.Errorf("%s: All(%x, %d) has the numbers %v and %d bytes, want %v and %d", c.what, c.b, c.most, numbers, n, c.numbers, c.size)
		}
		holds(t, c.what, c.b, c.most)
	}
}

func TestAllOfMany(t *testing.T) {
	var b []byte
	var want []frame.Record
	next := noise()
	for n := range 5000 {
		r := frame.Record{Num: n, Payload: some(upTo(40, next), next)}
		b = append(b, frame.Bytes(r.Num, r.Payload)...)
		want = append(want, r)
	}
	l, n := frame.All(b, 39)
	if !slices.EqualFunc(l, want, same) || n != len(b) {
		t.Errorf("5000 records are read back as %d, of %d bytes of %d", len(l), n, len(b))
	}
	l, n = frame.All(bytes.Repeat(frame.Bytes(0, nil), 5000), 0)
	if len(l) != 5000 || n != 100000 {
		t.Errorf("5000 records without a payload are read back as %d, of %d bytes", len(l), n)
	}
}

// TestAnySequence has records and other bytes in any sequence, some of them
// cut, bent or in the wrong place, and any bound.
func TestAnySequence(t *testing.T) {
	next := noise()
	for range 3000 {
		var b []byte
		for range upTo(6, next) {
			part := frame.Bytes(int(next()>>upTo(63, next)>>1), some(upTo(30, next), next))
			switch upTo(12, next) {
			case 0:
				part = part[:upTo(len(part), next)]
			case 1:
				part[upTo(len(part), next)] ^= 1 << upTo(8, next)
			case 2:
				part = plainBytes(int(next()), some(upTo(30, next), next))
			case 3:
				part = some(upTo(30, next), next)
			}
			b = append(b, part...)
		}
		holds(t, "a sequence", b, upTo(60, next)-2)
		holds(t, "a sequence", b, math.MaxInt)
	}
}

// TestOneIsAll: One takes no more and no less than one record.
func TestOneIsAll(t *testing.T) {
	one, two := frame.Bytes(1, []byte("first")), frame.Bytes(2, nil)
	for _, c := range []struct {
		what string
		b    []byte
		most int
		want bool
	}{
		{"one", one, 5, true},
		{"one without a payload", two, 0, true},
		{"one that is too long", one, 4, false},
		{"two", slices.Concat(one, two), 5, false},
		{"one twice", slices.Concat(two, two), 5, false},
		{"a byte behind", append(slices.Clone(one), 0), 5, false},
		{"a byte less", one[:24], 5, false},
		{"a byte ahead", slices.Concat([]byte{0}, one), 5, false},
		{"nothing", nil, 5, false},
	} {
		if r, ok := frame.One(c.b, c.most); ok != c.want || !ok && (r.Num != 0 || len(r.Payload) != 0) {
			t.Errorf("%s: One(%x, %d) = %v, %v, want %v", c.what, c.b, c.most, r, ok, c.want)
		}
	}
}

// TestSeparateEncodings: records that differ have encodings that differ, and
// none of them begins with another one.
func TestSeparateEncodings(t *testing.T) {
	next := noise()
	seen := map[string]string{}
	var all [][]byte
	for size := range 6 {
		for _, payload := range [][]byte{make([]byte, size), bytes.Repeat([]byte{255}, size), some(size, next)} {
			for _, n := range numbers() {
				b := frame.Bytes(n, payload)
				what := fmt.Sprintf("%d, %x", n, payload)
				if old, there := seen[string(b)]; there && old != what {
					t.Fatalf("%s and %s have the same encoding", old, what)
				}
				seen[string(b)] = what
				all = append(all, b)
			}
		}
	}
	for _, a := range all {
		for _, b := range all {
			if len(a) < len(b) && bytes.HasPrefix(b, a) {
				t.Fatalf("%x begins with %x", b, a)
			}
		}
	}
}
