package names_test

import (
	"fmt"
	"slices"
	"testing"

	"bagatelle/api"
	"bagatelle/disk"
	"bagatelle/names"
)

// most is the greatest number in a name.
const most = 1 << 62

// numerals has numbers, and how they are written in names.
var numerals = []struct {
	number int
	digits string
}{
	{0, "0000000000000000"},
	{1, "0000000000000001"},
	{9, "0000000000000009"},
	{10, "000000000000000a"},
	{15, "000000000000000f"},
	{16, "0000000000000010"},
	{100, "0000000000000064"},
	{255, "00000000000000ff"},
	{256, "0000000000000100"},
	{43981, "000000000000abcd"},
	{1<<32 - 1, "00000000ffffffff"},
	{1 << 32, "0000000100000000"},
	{81985529216486895, "0123456789abcdef"},
	{1147797409030816545, "0fedcba987654321"},
	{3458764513820540928, "3000000000000000"},
	{4611686018427387903, "3fffffffffffffff"},
	{4611686018427387904, "4000000000000000"},
}

// noise returns a function that returns numbers, always the same.
func noise() func() uint64 {
	state := uint64(88172645463325252)
	return func() uint64 {
		state ^= state << 13
		state ^= state >> 7
		state ^= state << 17
		return state
	}
}

// numbers returns many numbers that have names, of all lengths.
func numbers() []int {
	l := []int{most - 1, most}
	for n := range 5000 {
		l = append(l, n)
	}
	for i := range 62 {
		l = append(l, 1<<i-1, 1<<i, 1<<i+1, most-1<<i)
	}
	next := noise()
	for range 5000 {
		l = append(l, int(next()>>(2+next()%62)))
	}
	return l
}

func TestTemp(t *testing.T) {
	if names.Temp != "t" {
		t.Errorf("Temp = %q, want t", names.Temp)
	}
}

func TestNames(t *testing.T) {
	for _, c := range numerals {
		if got := names.Check(c.number); got != "c"+c.digits {
			t.Errorf("Check(%d) = %q, want c%s", c.number, got, c.digits)
		}
		if got := names.Segment(c.number); got != "j"+c.digits {
			t.Errorf("Segment(%d) = %q, want j%s", c.number, got, c.digits)
		}
	}
}

func TestManyNames(t *testing.T) {
	for _, n := range numbers() {
		if got, want := names.Check(n), fmt.Sprintf("c%016x", n); got != want {
			t.Fatalf("Check(%d) = %q, want %s", n, got, want)
		}
		if got, want := names.Segment(n), fmt.Sprintf("j%016x", n); got != want {
			t.Fatalf("Segment(%d) = %q, want %s", n, got, want)
		}
	}
}

// Numbers beyond the range have no name, but may be passed.
func TestNamesBeyond(t *testing.T) {
	for _, n := range []int{-1, -2, -most, -1 << 63, most + 1, 1<<63 - 1} {
		for _, name := range []string{names.Check(n), names.Segment(n)} {
			if _, got, ok := names.Parse(name); ok && got == n {
				t.Errorf("Parse(%q) = %d, which has no name", name, got)
			}
		}
	}
}

// A disk takes the names, and lists them in the order of their numbers.
func TestNamesOnDisk(t *testing.T) {
	d := disk.New(0)
	want := []string{}
	for _, name := range []func(int) string{names.Check, names.Segment} {
		for _, c := range numerals {
			want = append(want, name(c.number))
		}
	}
	want = append(want, names.Temp)
	for _, name := range slices.Backward(want) {
		if err := d.Create(name); err != api.OK {
			t.Errorf("Create(%q) = %v", name, err)
		}
	}
	if l, err := d.List(); err != api.OK || !slices.Equal(l, want) {
		t.Errorf("List() = %q, %v, want %q", l, err, want)
	}
}
