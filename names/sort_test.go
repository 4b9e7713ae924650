package names_test

import (
	"cmp"
	"fmt"
	"slices"
	"testing"

	"bagatelle/names"
)

func TestSort(t *testing.T) {
	const high = "4000000000000000"
	for _, c := range []struct {
		names            []string
		checks, segments []int
	}{
		{nil, nil, nil},
		{[]string{}, nil, nil},
		{[]string{"t", "", "c", "j", "x", "c000000000000000F", "j4000000000000001", "c00000000000000001"}, nil, nil},
		{[]string{"c00000000000000ff"}, []int{255}, nil},
		{[]string{"j00000000000000ff"}, nil, []int{255}},
		{[]string{"c0000000000000000", "j0000000000000000"}, []int{0}, []int{0}},
		{[]string{"c" + high, "c0000000000000000", "j" + high, "j0000000000000000"}, []int{0, 1 << 62}, []int{0, 1 << 62}},
		{
			[]string{"j0000000000000003", "t", "c0000000000000002", "j0000000000000001", "c0000000000000001", "j0000000000000002"},
			[]int{1, 2}, []int{1, 2, 3},
		},
		{
			[]string{"c0000000000000010", "c000000000000000a", "c0000000000000009", "c000000000000000f"},
			[]int{9, 10, 15, 16}, nil,
		},
		{
			[]string{"j0000000000000007", "c0000000000000007", "j0000000000000007", "j0000000000000006", "j0000000000000007", "c0000000000000007"},
			[]int{7, 7}, []int{6, 7, 7, 7},
		},
	} {
		checks, segments := names.Sort(c.names)
		if !slices.Equal(checks, c.checks) || !slices.Equal(segments, c.segments) {
			t.Errorf("Sort(%q) = %d, %d, want %d, %d", c.names, checks, segments, c.checks, c.segments)
		}
	}
}

// some returns n names, mixed with others, that often occur twice.
func some(n int, next func() uint64) []string {
	l := make([]string, 0, n)
	for range n {
		number := int(next() >> (2 + next()%62))
		switch next() % 8 {
		case 0, 1, 2:
			l = append(l, names.Check(number))
		case 3, 4, 5:
			l = append(l, names.Segment(number))
		case 6:
			l = append(l, fmt.Sprintf("%c%0*X", "cjt"[next()%3], 15+next()%3, number))
		case 7:
			l = append(l, append(l, names.Temp)[next()%uint64(len(l)+1)])
		}
	}
	return l
}

// plainSort is the chapter's Sort: the numbers of the names that begin with
// kind, each at the end of those that are at most as great.
func plainSort(kind byte, l []string) []int {
	var sorted []int
	for _, s := range l {
		k, n, ok := plainParse(s)
		if !ok || k != kind {
			continue
		}
		at := 0
		for at < len(sorted) && cmp.Compare(sorted[at], n) <= 0 {
			at++
		}
		sorted = slices.Insert(sorted, at, n)
	}
	return sorted
}

func TestSortOfMany(t *testing.T) {
	next := noise()
	for i := range 2000 {
		l := some(i%100, next)
		checks, segments := names.Sort(l)
		if want := plainSort('c', l); !slices.Equal(checks, want) {
			t.Fatalf("Sort(%q) has the checkpoints %d, want %d", l, checks, want)
		}
		if want := plainSort('j', l); !slices.Equal(segments, want) {
			t.Fatalf("Sort(%q) has the segments %d, want %d", l, segments, want)
		}
	}
}

// The order of the names is nothing that Sort tells.
func TestSortOfShuffled(t *testing.T) {
	next := noise()
	l := some(200, next)
	checks, segments := names.Sort(l)
	for range 200 {
		i, j := next()%200, next()%200
		l[i], l[j] = l[j], l[i]
		c, s := names.Sort(l)
		if !slices.Equal(c, checks) || !slices.Equal(s, segments) {
			t.Fatalf("Sort(%q) = %d, %d, want %d, %d", l, c, s, checks, segments)
		}
	}
}

func TestSortLeavesNames(t *testing.T) {
	memory := some(100, noise())
	before := slices.Clone(memory)
	names.Sort(memory[:50])
	if !slices.Equal(memory, before) {
		t.Errorf("Sort made %q of %q", memory, before)
	}
}

// The lists of one answer, and those of two, share no memory.
func TestSortedApart(t *testing.T) {
	l := []string{"c0000000000000002", "j0000000000000004", "c0000000000000001", "j0000000000000003"}
	lists := func() [][]int {
		a, b := names.Sort(l)
		c, d := names.Sort(l)
		return [][]int{a, b, c, d}
	}
	want := lists()
	for i := range want {
		got := lists()
		for j := range got[i] {
			got[i][j] = -1
		}
		_ = append(got[i], -1, -1, -1)
		for j := range got {
			if j != i && !slices.Equal(got[j], want[j]) {
				t.Errorf("list %d changed with list %d: %d, want %d", j, i, got[j], want[j])
			}
		}
	}
}
