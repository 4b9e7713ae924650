package journal_test

import (
	"bytes"
	"fmt"
	"math"
	"slices"
	"testing"

	"bagatelle/api"
	"bagatelle/crc"
	"bagatelle/disk"
	"bagatelle/frame"
	"bagatelle/journal"
)

// scans reports an error unless Scan of a segment of these bytes returns the
// records with these numbers, and that bool.
func scans(t *testing.T, what string, b []byte, whole bool, numbers ...int) {
	t.Helper()
	d := holding(t, b)
	before := after(d, 0)
	ops := d.Ops()
	l, gotWhole, err := journal.Scan(d, 1)
	var got []int
	for _, r := range l {
		got = append(got, r.Num)
	}
	if !slices.Equal(got, numbers) || gotWhole != whole || err != api.OK {
		t.Errorf("%s: Scan returns the numbers %d, %v, %v, want %d, %v", what, got, gotWhole, err, numbers, whole)
	}
	used(t, what, d, ops+1)
	if after(d, 0) != before {
		t.Errorf("%s: Scan changed the disk", what)
	}
}

func TestScan(t *testing.T) {
	one, two, three := plainBytes(1, []byte("first")), plainBytes(2, nil), plainBytes(3, []byte("the third"))
	for _, c := range []struct {
		what    string
		b       []byte
		whole   bool
		numbers []int
	}{
		{"nothing", nil, true, nil},
		{"one record", one, true, []int{1}},
		{"one without a payload", two, true, []int{2}},
		{"three", slices.Concat(one, two, three), true, []int{1, 2, 3}},
		{"in any order", slices.Concat(three, one, two), true, []int{3, 1, 2}},
		{"with gaps", slices.Concat(one, three), true, []int{1, 3}},
		{"one twice", slices.Concat(one, one, two, two), true, []int{1, 1, 2, 2}},
		{"one number, two payloads", slices.Concat(one, plainBytes(1, []byte("other"))), true, []int{1, 1}},
		{"the number 0", plainBytes(0, nil), true, []int{0}},
		{"the greatest number", plainBytes(math.MaxInt, nil), true, []int{math.MaxInt}},
		{"a negative number", slices.Concat(one, plainBytes(-1, nil), two), false, []int{1}},
		{"the least number", plainBytes(math.MinInt, nil), false, nil},
		{"a byte", []byte{0}, false, nil},
		{"a byte at the end", append(slices.Clone(one), 0), false, []int{1}},
		{"a byte at the beginning", slices.Concat([]byte{0}, one), false, nil},
		{"a byte in the middle", slices.Concat(one, []byte{0}, two), false, []int{1}},
		{"zeros at the end", slices.Concat(one, make([]byte, 20)), false, []int{1}},
		{"many zeros", make([]byte, 1000), false, nil},
		{"half a record at the end", slices.Concat(one, three[:10]), false, []int{1}},
		{"half a record in the middle", slices.Concat(one, three[:10], two), false, []int{1}},
		{"records in a payload", plainBytes(9, slices.Concat(one, two)), true, []int{9}},
		{"sealed bytes", crc.Seal([]byte("abc")), false, nil},
	} {
		scans(t, c.what, c.b, c.whole, c.numbers...)
	}
}

// A payload has at most 16384 bytes, as that of a batch, not of a checkpoint.
func TestScanOfLong(t *testing.T) {
	short, long, longer := plainBytes(1, make([]byte, 16384)), plainBytes(2, make([]byte, 16385)), plainBytes(3, make([]byte, 100000))
	scans(t, "16383 bytes", plainBytes(4, make([]byte, 16383)), true, 4)
	scans(t, "16384 bytes", short, true, 1)
	scans(t, "16384 bytes, five times", bytes.Repeat(short, 5), true, 1, 1, 1, 1, 1)
	scans(t, "16385 bytes", long, false)
	scans(t, "100000 bytes", longer, false)
	scans(t, "16385 bytes at the end", slices.Concat(short, long), false, 1)
	scans(t, "16385 bytes in the middle", slices.Concat(short, long, short), false, 1)
}

// A segment that is cut anywhere has the records ahead of that, and it is whole
// exactly at their ends.
func TestScanOfCut(t *testing.T) {
	var b []byte
	ends := map[int]int{0: 0} // how many records end there
	for n := range 6 {
		b = append(b, plainBytes(n, bytes.Repeat([]byte{byte(n)}, 7*n))...)
		ends[len(b)] = n + 1
	}
	count := 0
	for size := range len(b) + 1 {
		n, whole := ends[size]
		if whole {
			count = n
		}
		var numbers []int
		for n := range count {
			numbers = append(numbers, n)
		}
		scans(t, fmt.Sprintf("%d bytes", size), b[:size], whole, numbers...)
	}
}

// A segment of which some of 32 consecutive bits are inverted has the records
// ahead of them.
func TestScanOfBent(t *testing.T) {
	var b []byte
	var ends []int
	for n := range 4 {
		b = append(b, plainBytes(n, bytes.Repeat([]byte{byte(n)}, 3*n))...)
		ends = append(ends, len(b))
	}
	for at := range 8 * len(b) {
		for _, mask := range []uint32{1, 3, 0x101, 0x80000001, 0xffffffff} {
			var numbers []int
			for n, end := range ends {
				if end <= at/8 {
					numbers = append(numbers, n)
				}
			}
			scans(t, fmt.Sprintf("bent at %d by %x", at, mask), crc.Bend(b, at, mask), false, numbers...)
		}
	}
}

func TestScanOfNumbers(t *testing.T) {
	d := disk.New(1000)
	for _, seq := range []int{0, 1, 255, most} {
		must(t, journal.Begin(d, seq), journal.Write(d, seq, seq, []byte(plainName(seq))))
	}
	for _, seq := range []int{0, 1, 255, most} {
		l, whole, err := journal.Scan(d, seq)
		if want := []frame.Record{{Num: seq, Payload: []byte(plainName(seq))}}; !slices.EqualFunc(l, want, same) || !whole || err != api.OK {
			t.Errorf("Scan(%d) = %s, %v, %v, want %s", seq, show(l), whole, err, show(want))
		}
	}
}

// nothing reports an error unless Scan returns this error, and nothing else.
func nothing(t *testing.T, what string, d *disk.Disk, seq int, want api.Errno) {
	t.Helper()
	ops := d.Ops()
	if l, whole, err := journal.Scan(d, seq); len(l) != 0 || whole || err != want {
		t.Errorf("%s: Scan(%d) = %s, %v, %v, want nothing, false, %v", what, seq, show(l), whole, err, want)
	}
	used(t, what, d, ops+1)
}

func TestScanWithError(t *testing.T) {
	for _, b := range [][]byte{nil, plainBytes(1, nil), []byte("no record")} {
		d := holding(t, b)
		must(t, d.Create("c0000000000000002"), d.Create("t"))
		nothing(t, "none", d, 2, api.ErrNone)
		nothing(t, "none", d, 0, api.ErrNone)
		nothing(t, "none", d, most, api.ErrNone)
		for seq := range 3 {
			d.Arm(-1, 0)
			nothing(t, "the disk fails", d, seq, api.ErrIO)
			d.Arm(0, 0)
			nothing(t, "the disk goes down", d, seq, api.ErrDown)
			nothing(t, "the disk is down", d, seq, api.ErrDown)
			d.Crash(2)
		}
		must(t, journal.Remove(d, 1))
		nothing(t, "removed", d, 1, api.ErrNone)
	}
}

// What Scan returns is new: it shares nothing with the disk, with another
// answer, or within itself.
func TestScannedApart(t *testing.T) {
	var b []byte
	var want []frame.Record
	for n := range 5 {
		r := frame.Record{Num: n, Payload: []byte("abc")}
		b = append(b, plainBytes(n, r.Payload)...)
		want = append(want, r)
	}
	d := holding(t, b)
	for i := range want {
		got, _, _ := journal.Scan(d, 1)
		other, _, _ := journal.Scan(d, 1)
		scribble(got[i].Payload)
		_ = append(got[:i], frame.Record{Num: -1})
		for j := range want {
			if j != i && !same(got[j], want[j]) || !same(other[j], want[j]) {
				t.Errorf("record %d changed with record %d: %s, %s", j, i, show(got), show(other))
			}
		}
		scans(t, "after that", b, true, 0, 1, 2, 3, 4)
		if l, _, _ := journal.Scan(d, 1); !slices.EqualFunc(l, want, same) {
			t.Errorf("the disk has changed: %s", show(l))
		}
	}
}
