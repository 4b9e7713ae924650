package journal_test

import (
	"fmt"
	"math"
	"slices"
	"testing"

	"bagatelle/frame"
	"bagatelle/journal"
)

// rec returns a record.
func rec(n int, payload string) frame.Record {
	return frame.Record{Num: n, Payload: []byte(payload)}
}

// run returns records with numbers from a to b, with payloads of their own.
func run(a, b int) []frame.Record {
	var l []frame.Record
	for n := a; n <= b; n++ {
		l = append(l, rec(n, fmt.Sprint("batch ", n)))
	}
	return l
}

// join returns all records in one list.
func join(l ...[]frame.Record) []frame.Record {
	return slices.Concat(l...)
}

func TestFollow(t *testing.T) {
	type segments = [][]frame.Record
	for _, c := range []struct {
		what     string
		from     int
		segments segments
		want     []frame.Record
		ok       bool
	}{
		{"the chapter's example", 3, segments{run(2, 4)}, run(4, 4), true},
		{"no segment", 0, nil, nil, true},
		{"an empty segment", 0, segments{nil}, nil, true},
		{"empty segments", 7, segments{nil, {}, nil}, nil, true},
		{"one record", 0, segments{run(1, 1)}, run(1, 1), true},
		{"one segment", 0, segments{run(1, 9)}, run(1, 9), true},
		{"some segments", 0, segments{run(1, 4), run(5, 5), nil, run(6, 9), nil}, run(1, 9), true},
		{"from a later one on", 6, segments{run(1, 4), run(5, 9)}, run(7, 9), true},
		{"from the end of a segment", 4, segments{run(1, 4), run(5, 9)}, run(5, 9), true},
		{"from the last one", 9, segments{run(1, 4), run(5, 9)}, nil, true},
		{"from beyond the last one", 100, segments{run(1, 4), run(5, 9)}, nil, true},

		{"the first one is missing", 3, segments{run(5, 6)}, nil, false},
		{"the first ones are missing", 0, segments{run(9, 9)}, nil, false},
		{"the first one of the others is missing", 3, segments{run(1, 3), run(5, 6)}, nil, false},
		{"one is missing", 0, segments{join(run(1, 3), run(5, 6))}, run(1, 3), false},
		{"one is missing between segments", 0, segments{run(1, 3), run(5, 6)}, run(1, 3), false},
		{"the last but one is missing", 2, segments{join(run(3, 5), run(7, 7))}, run(3, 5), false},
		{"one is missing, and comes later", 0, segments{run(1, 3), run(5, 6), run(4, 4)}, run(1, 3), false},

		{"one twice", 0, segments{join(run(1, 3), run(3, 5))}, run(1, 5), true},
		{"the first one twice", 0, segments{join(run(1, 1), run(1, 2))}, run(1, 2), true},
		{"the last one twice", 0, segments{run(1, 3), run(3, 3)}, run(1, 3), true},
		{"one five times", 0, segments{join(run(1, 3), run(3, 3), run(3, 3)), run(3, 3), run(3, 4)}, run(1, 4), true},
		{"without a payload twice", 0, segments{{rec(1, ""), {Num: 1}, rec(1, ""), rec(2, "")}}, []frame.Record{{Num: 1}, {Num: 2}}, true},
		{"one that is skipped twice", 3, segments{run(1, 3), run(3, 5)}, run(4, 5), true},

		{"two payloads", 0, segments{{rec(1, "a"), rec(1, "b")}}, []frame.Record{rec(1, "a")}, false},
		{"two payloads, and one again", 0, segments{{rec(1, "a"), rec(1, "b"), rec(1, "a"), rec(2, "c")}}, []frame.Record{rec(1, "a")}, false},
		{"two payloads, one empty", 0, segments{{rec(1, "a"), rec(1, "")}}, []frame.Record{rec(1, "a")}, false},
		{"two payloads, the first one empty", 0, segments{{rec(1, "")}, {rec(1, "a")}}, []frame.Record{rec(1, "")}, false},
		{"a payload that goes on", 0, segments{{rec(1, "a"), rec(1, "ab")}}, []frame.Record{rec(1, "a")}, false},
		{"two payloads in segments", 2, segments{run(1, 4), {rec(4, "other")}, run(5, 6)}, run(3, 4), false},
		{"two payloads of one that is skipped", 2, segments{{rec(1, "a"), rec(1, "b"), rec(2, "a")}, {rec(2, "b"), rec(3, "a")}}, []frame.Record{rec(3, "a")}, true},
		{"one payload, another number", 0, segments{{rec(1, "a"), rec(2, "a"), rec(3, "a")}}, []frame.Record{rec(1, "a"), rec(2, "a"), rec(3, "a")}, true},

		{"one goes back", 0, segments{run(1, 3), run(2, 5)}, run(1, 3), false},
		{"one goes back to the first", 2, segments{run(3, 6), run(3, 6)}, run(3, 6), false},
		{"one goes back by two", 0, segments{run(1, 5), run(3, 3)}, run(1, 5), false},
		{"all backwards", 0, segments{{rec(3, ""), rec(2, ""), rec(1, "")}}, nil, false},
		{"one twice, but not at once", 0, segments{join(run(1, 3), run(4, 4), run(3, 3))}, run(1, 4), false},

		{"skipped at the end", 3, segments{run(4, 6), run(1, 3)}, run(4, 6), true},
		{"skipped in the middle", 3, segments{run(4, 5), run(2, 3), run(6, 7)}, run(4, 7), true},
		{"skipped between two of one", 3, segments{run(4, 5), run(1, 3), run(5, 6)}, run(4, 6), true},
		{"skipped between two payloads", 3, segments{run(4, 5), run(1, 3), {rec(5, "other")}}, run(4, 5), false},
		{"skipped in any order", 3, segments{{rec(3, ""), rec(1, "a"), rec(1, "b"), rec(-7, ""), rec(2, "")}, run(4, 5)}, run(4, 5), true},
		{"skipped, and one is missing", 3, segments{run(1, 2), run(6, 7)}, nil, false},

		{"from 0", 0, segments{run(0, 2)}, run(1, 2), true},
		{"from -1", -1, segments{run(0, 2)}, run(0, 2), true},
		{"from -1, without 0", -1, segments{run(1, 2)}, nil, false},
		{"from -3", -3, segments{run(-5, 1)}, run(-2, 1), true},
		{"to the greatest number", math.MaxInt - 2, segments{{rec(math.MaxInt-2, "a"), rec(math.MaxInt-1, "b"), rec(math.MaxInt, "c")}}, []frame.Record{rec(math.MaxInt-1, "b"), rec(math.MaxInt, "c")}, true},
		{"the greatest number twice", math.MaxInt - 1, segments{{rec(math.MaxInt, "c"), rec(math.MaxInt, "c")}}, []frame.Record{rec(math.MaxInt, "c")}, true},
		{"the greatest number with two payloads", math.MaxInt - 1, segments{{rec(math.MaxInt, "c"), rec(math.MaxInt, "d")}}, []frame.Record{rec(math.MaxInt, "c")}, false},
		{"from the greatest number", math.MaxInt, segments{{rec(math.MaxInt, "c"), rec(math.MinInt, "d"), rec(0, "")}}, nil, true},
		{"beyond the greatest number", math.MaxInt - 1, segments{{rec(math.MaxInt, "c"), rec(math.MinInt, "d"), rec(math.MinInt+1, "e")}}, []frame.Record{rec(math.MaxInt, "c")}, true},
		{"from the least number", math.MinInt, segments{{rec(math.MinInt, "a"), rec(math.MinInt+1, "b")}}, []frame.Record{rec(math.MinInt+1, "b")}, true},
		{"from the least number to another one", math.MinInt, segments{{rec(math.MaxInt, "a")}}, nil, false},
		{"far from each other", -10, segments{{rec(math.MaxInt, "a")}}, nil, false},
	} {
		got, ok := journal.Follow(c.from, c.segments...)
		if !slices.EqualFunc(got, c.want, same) || ok != c.ok {
			t.Errorf("%s: Follow(%d) = %s, %v, want %s, %v", c.what, c.from, show(got), ok, show(c.want), c.ok)
		}
		got, ok = plainFollow(c.from, c.segments...)
		if !slices.EqualFunc(got, c.want, same) || ok != c.ok {
			t.Errorf("%s: the plain Follow(%d) = %s, %v, want %s, %v", c.what, c.from, show(got), ok, show(c.want), c.ok)
		}
	}
}

// All sequences of up to five records with four numbers and two payloads, from
// any number, divided into segments somewhere.
func TestEverySequence(t *testing.T) {
	kinds := []frame.Record{}
	for n := range 4 {
		kinds = append(kinds, rec(n+1, ""), rec(n+1, "a"))
	}
	for size := range 6 {
		for code := range 1 << (3 * size) {
			var l []frame.Record
			for i := range size {
				l = append(l, kinds[code>>(3*i)&7])
			}
			for from := range 6 {
				a, b := code%(size+1), code/7%(size+1)
				a, b = min(a, b), max(a, b)
				segments := [][]frame.Record{l[:a], l[a:b], l[b:]}
				got, ok := journal.Follow(from, segments...)
				want, wantOK := plainFollow(from, segments...)
				if !slices.EqualFunc(got, want, same) || ok != wantOK {
					t.Fatalf("Follow(%d) of %s = %s, %v, want %s, %v", from, show(l), show(got), ok, show(want), wantOK)
				}
			}
		}
	}
}

// Long sequences that seldom go wrong.
func TestLongSequences(t *testing.T) {
	next := noise()
	good := 0
	for range 3000 {
		from, n := upTo(60, next)-10, upTo(20, next)
		var segments [][]frame.Record
		for range upTo(8, next) {
			var l []frame.Record
			for range upTo(30, next) {
				n++
				switch upTo(100, next) {
				case 0:
					n += upTo(3, next)
				case 1, 2, 3, 4, 5:
					n--
				case 6:
					n -= upTo(5, next)
				}
				l = append(l, rec(n, fmt.Sprint(n, upTo(300, next)/299)))
			}
			segments = append(segments, l)
		}
		got, ok := journal.Follow(from, segments...)
		want, wantOK := plainFollow(from, segments...)
		if !slices.EqualFunc(got, want, same) || ok != wantOK {
			t.Fatalf("Follow(%d) of %s = %s, %v, want %s, %v", from, show(join(segments...)), show(got), ok, show(want), wantOK)
		}
		if ok {
			good++
		}
	}
	if good < 500 || good > 2500 {
		t.Errorf("%d of 3000 sequences go on: the test says little", good)
	}
}

// The segments stay as they were, also behind their ends.
func TestFollowLeavesSegments(t *testing.T) {
	memory := join(run(1, 10), run(10, 20), run(5, 6))
	before := slices.Clone(memory)
	payload, untouched := spare([]byte("x"))
	memory[3].Payload, before[3].Payload = payload, []byte("x")
	segments := [][]frame.Record{memory[:4], memory[4:8], memory[8:12], memory[20:22], memory[0:2]}
	given := slices.Clone(segments)
	journal.Follow(2, segments[:4]...)
	journal.Follow(2, segments[:2]...)
	if !slices.EqualFunc(memory, before, same) || !untouched() {
		t.Errorf("Follow made %s of %s", show(memory), show(before))
	}
	for i, s := range segments {
		if len(s) != len(given[i]) || &s[0] != &given[i][0] {
			t.Errorf("Follow changed segment %d", i)
		}
	}
}

// What Follow returns is new: it shares nothing with the segments, or within
// itself, also where the segments do.
func TestFollowedApart(t *testing.T) {
	shared := []byte("abc")
	var l, want []frame.Record
	for n := range 6 {
		l = append(l, frame.Record{Num: n, Payload: shared[:2]})
		want = append(want, rec(n, "ab"))
	}
	l = append(l, frame.Record{Num: 5, Payload: shared}, frame.Record{Num: 8})
	for i := range 5 {
		got, ok := journal.Follow(0, l[:2], l[2:])
		if len(got) != 5 || ok {
			t.Fatalf("Follow = %s, %v, want 5 records, false", show(got), ok)
		}
		scribble(got[i].Payload)
		for j := range 5 {
			if j != i && !same(got[j], want[j+1]) {
				t.Errorf("record %d changed with record %d: %s", j, i, show(got))
			}
		}
		_ = append(got, frame.Record{Num: -1})
		got[i].Num = -1
		if string(shared) != "abc" || l[7].Num != 8 || l[i+1].Num != i+1 {
			t.Errorf("the segments changed with record %d: %q, %s", i, shared, show(l))
		}
	}
}
