package journal_test

import (
	"bytes"
	"fmt"
	"slices"
	"testing"

	"bagatelle/api"
	"bagatelle/disk"
	"bagatelle/frame"
	"bagatelle/journal"
)

// anySegment returns the number of one of a few segments.
func anySegment(next func() uint64) int {
	return []int{0, 1, 2, 3, 4, most}[upTo(6, next)]
}

// anyCall returns any call to the journal, most often a Write.
func anyCall(next func() uint64) call {
	switch upTo(10, next) {
	case 0, 1:
		return begin(anySegment(next))
	case 2, 3:
		return scan(anySegment(next))
	case 4:
		var segments []int
		for range upTo(4, next) {
			segments = append(segments, anySegment(next))
		}
		return remove(segments...)
	}
	size := upTo(30, next)
	if upTo(50, next) == 0 {
		size = 16384
	}
	return write(anySegment(next), int(next()>>(1+upTo(63, next))), some(size, next))
}

// P19.1: whatever is called, on any disk, in any state, each call is what the
// chapter says, operation by operation.
func TestMany(t *testing.T) {
	next := noise()
	for round := range 600 {
		d := disk.New([]int{100, 300, 100000}[upTo(3, next)])
		what := fmt.Sprint("round ", round)
		for range 30 {
			switch upTo(15, next) {
			case 0:
				d.Arm(upTo(4, next)-1, upTo(4, next)-1)
			case 1:
				d.Crash(upTo(4, next), upTo(40, next), upTo(40, next), upTo(40, next))
			case 2:
				d.Bend(plainName(anySegment(next)), upTo(800, next), uint32(next()))
			case 3:
				d.Append(plainName(anySegment(next)), some(upTo(9, next), next))
			case 4:
				d.Create(fmt.Sprint("f", upTo(70, next)))
			}
			alike(t, what, d, anyCall(next))
		}
	}
}

// P19.1: each call, ended at each of its operations in each way.
func TestEveryEnd(t *testing.T) {
	record := plainBytes(1, []byte("abc"))
	for _, c := range []call{
		begin(0), begin(1), begin(3), begin(most),
		write(1, 2, []byte("defg")), write(2, 1, nil), write(3, 1, nil), write(1, 2, make([]byte, 16384)),
		scan(1), scan(2), scan(3),
		remove(), remove(1), remove(2, 1), remove(1, 3, 2), remove(3),
	} {
		for down := range 6 {
			for fail := range 6 {
				d := holding(t, record, nil)
				must(t, d.Append(plainName(2), []byte("loose")), d.Create("t"))
				d.Arm(down-1, fail-1)
				alike(t, fmt.Sprintf("armed with %d, %d", down-1, fail-1), d, c)
				alike(t, fmt.Sprintf("armed with %d, %d, and again", down-1, fail-1), d, c)
			}
		}
	}
}

// Whenever power is lost, and whatever is kept: the segments have the records
// whose Write returned OK, and at most the one after them, in one piece.
func TestPowerLost(t *testing.T) {
	payload := func(n int) []byte { return bytes.Repeat([]byte{byte(n)}, n) }
	history := func(d *disk.Disk) (acknowledged int) {
		for n := 1; n <= 6; n++ {
			if n%3 == 1 && journal.Begin(d, n) != api.OK {
				return acknowledged
			}
			if journal.Write(d, (n-1)/3*3+1, n, payload(n)) != api.OK {
				return acknowledged
			}
			acknowledged = n
		}
		return acknowledged
	}
	for down := range 17 {
		for names := range 2 {
			for kept := range 28 {
				d := disk.New(1000)
				d.Arm(down, -1)
				acknowledged := history(d)
				d.Crash(names, kept)
				got := follow(t, d)
				if len(got) < acknowledged || len(got) > acknowledged+1 {
					t.Fatalf("down at %d, Crash(%d, %d): %s, want %d records, or one more", down, names, kept, show(got), acknowledged)
				}
				for i, r := range got {
					if want := (frame.Record{Num: i + 1, Payload: payload(i + 1)}); !same(r, want) {
						t.Fatalf("down at %d, Crash(%d, %d): %s", down, names, kept, show(got))
					}
				}
			}
		}
	}
}

// follow returns the records of the segments 1 and 4, if they are there.
func follow(t *testing.T, d *disk.Disk) []frame.Record {
	t.Helper()
	var segments [][]frame.Record
	for _, seq := range []int{1, 4} {
		l, _, err := journal.Scan(d, seq)
		if err != api.OK && err != api.ErrNone {
			t.Fatalf("Scan(%d): %v", seq, err)
		}
		segments = append(segments, l)
	}
	got, ok := journal.Follow(0, segments...)
	if !ok {
		t.Fatalf("the records don't go on: %s", show(slices.Concat(segments...)))
	}
	return got
}

// A Write that failed may be repeated, with the same payload.
func TestRepeatedWrite(t *testing.T) {
	for fail := range 2 {
		for _, again := range []string{"b", "other"} {
			d := holding(t, nil)
			must(t, journal.Write(d, 1, 1, []byte("a")))
			d.Arm(-1, fail)
			is(t, "the failing Write", journal.Write(d, 1, 2, []byte("b")), api.ErrIO)
			must(t, journal.Write(d, 1, 2, []byte(again)), journal.Write(d, 1, 3, []byte("c")))
			l, whole, err := journal.Scan(d, 1)
			if len(l) != 3+fail || !whole || err != api.OK {
				t.Errorf("fail at %d: Scan returns %s, %v, %v", fail, show(l), whole, err)
			}
			want, wantOK := []frame.Record{rec(1, "a"), rec(2, again), rec(3, "c")}, true
			if fail == 1 && again == "other" {
				want, wantOK = []frame.Record{rec(1, "a"), rec(2, "b")}, false
			}
			if got, ok := journal.Follow(0, l); !slices.EqualFunc(got, want, same) || ok != wantOK {
				t.Errorf("fail at %d: Follow returns %s, %v, want %s, %v", fail, show(got), ok, show(want), wantOK)
			}
		}
	}
}
