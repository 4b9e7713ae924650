package journal_test

import (
	"bytes"
	"fmt"
	"math"
	"slices"
	"testing"

	"bagatelle/api"
	"bagatelle/disk"
	"bagatelle/journal"
)

// stops are the ways in which a disk ends a call: it goes down before, or fails
// at, one of its operations.
var stops = []struct {
	what       string
	down, fail func(n int) int
	err        api.Errno
}{
	{"down", at, never, api.ErrDown},
	{"fail", never, at, api.ErrIO},
	{"both", at, at, api.ErrDown},
}

func at(n int) int  { return n }
func never(int) int { return -1 }

func TestBegin(t *testing.T) {
	for seq, name := range map[int]string{
		0: "j0000000000000000", 1: "j0000000000000001", 255: "j00000000000000ff", most: "j4000000000000000",
	} {
		d := disk.New(0)
		is(t, name, journal.Begin(d, seq), api.OK)
		used(t, name, d, 2)
		if got, want := after(d, 0), "0; "+name+" "; got != want {
			t.Errorf("after Begin(%d) and a crash the disk has %s, want %s", seq, got, want)
		}
	}
}

// All directory changes are durable after Begin, not only its own.
func TestBeginMakesDurable(t *testing.T) {
	d := holding(t, nil, nil)
	must(t, d.Create("t"), d.Rename("t", "u"), d.Remove(plainName(1)))
	is(t, "Begin(3)", journal.Begin(d, 3), api.OK)
	if got, want := after(d, 0), "0; j0000000000000002 ; j0000000000000003 ; u "; got != want {
		t.Errorf("after Begin(3) and a crash the disk has %s, want %s", got, want)
	}
}

// With an error of Create there is no DirSync: what was removed comes back.
func TestBeginOfOthers(t *testing.T) {
	d := holding(t, []byte("abc"), nil)
	must(t, d.Remove(plainName(2)))
	ops := d.Ops()
	is(t, "Begin of a segment that is there", journal.Begin(d, 1), api.ErrThere)
	used(t, "Begin of a segment that is there", d, ops+1)
	if got, want := after(d, 0), "3; j0000000000000001 616263; j0000000000000002 "; got != want {
		t.Errorf("the disk has %s, want %s", got, want)
	}
	full := disk.New(0)
	for i := range 64 {
		must(t, full.Create(fmt.Sprint("f", i)))
	}
	is(t, "Begin on a full disk", journal.Begin(full, 1), api.ErrFull)
	used(t, "Begin on a full disk", full, 65)
	is(t, "Begin of a segment that is there, on a full disk", journal.Begin(full, 1), api.ErrFull)
	must(t, full.Remove("f0"))
	is(t, "Begin of the last file", journal.Begin(full, 1), api.OK)
	is(t, "Begin of the last file again", journal.Begin(full, 1), api.ErrThere)
}

func TestBeginEnded(t *testing.T) {
	for _, stop := range stops {
		for n, want := range []struct {
			ops       int
			now, lost string
			kept      string
		}{
			{1, "0", "0", "0"},
			{2, "0; j0000000000000007 ", "0", "0; j0000000000000007 "},
		} {
			d := disk.New(0)
			d.Arm(stop.down(n), stop.fail(n))
			what := fmt.Sprintf("Begin, %s at %d", stop.what, n)
			is(t, what, journal.Begin(d, 7), stop.err)
			used(t, what, d, want.ops)
			if got := told(d); !d.Down() && got != want.now {
				t.Errorf("%s: the disk has %s, want %s", what, got, want.now)
			}
			if got := after(d, 0); got != want.lost {
				t.Errorf("%s: after a crash the disk has %s, want %s", what, got, want.lost)
			}
			if got := after(d, 1); got != want.kept {
				t.Errorf("%s: after a crash that keeps a change the disk has %s, want %s", what, got, want.kept)
			}
		}
	}
}

func TestWrite(t *testing.T) {
	d := holding(t, nil, nil)
	ops := d.Ops()
	is(t, "Write", journal.Write(d, 2, 258, []byte("abc")), api.OK)
	used(t, "Write", d, ops+2)
	const one = "030000000201000000000000561819e8616263c2412435"
	if got, want := after(d, 0), "23; j0000000000000001 ; j0000000000000002 "+one; got != want {
		t.Errorf("after Write and a crash the disk has %s, want %s", got, want)
	}
	is(t, "Write of nothing", journal.Write(d, 2, 0, nil), api.OK)
	used(t, "Write of nothing", d, ops+4)
	const two = "0000000000000000000000006fc6d57b00000000"
	if got, want := after(d, 0), "43; j0000000000000001 ; j0000000000000002 "+one+two; got != want {
		t.Errorf("after another Write and a crash the disk has %s, want %s", got, want)
	}
}

// Numbers and payloads up to their limits, in segments of any number.
func TestWriteAtLimits(t *testing.T) {
	for _, seq := range []int{0, 1, most} {
		for _, n := range []int{0, 1, 1 << 32, most, math.MaxInt} {
			for _, size := range []int{0, 1, 16383, 16384} {
				d := disk.New(16384 + 20)
				must(t, journal.Begin(d, seq), journal.Write(d, seq, n, make([]byte, size)))
				d.Crash(0)
				if b, err := d.Read(plainName(seq)); err != api.OK || !bytes.Equal(b, plainBytes(n, make([]byte, size))) {
					t.Errorf("Write(%d, %d, %d bytes) leaves %.40x of %d bytes, %v", seq, n, size, b, len(b), err)
				}
			}
		}
	}
}

// Other files are as they were, also those that aren't durable.
func TestWriteMakesDurable(t *testing.T) {
	d := holding(t, nil, nil)
	must(t, d.Append(plainName(1), []byte("loose")), d.Append(plainName(2), []byte("loose")), d.Create("t"))
	is(t, "Write", journal.Write(d, 2, 0, nil), api.OK)
	want := fmt.Sprintf("25; j0000000000000001 ; j0000000000000002 %x%x", "loose", plainBytes(0, nil))
	if got := after(d, 0); got != want {
		t.Errorf("after Write and a crash the disk has %s, want %s", got, want)
	}
}

// With an error of Append there is no Sync: what was loose stays that.
func TestWriteToOthers(t *testing.T) {
	d := disk.New(30)
	must(t, journal.Begin(d, 1), d.Append(plainName(1), []byte("loose")))
	ops := d.Ops()
	for _, c := range []struct {
		seq, size int
		err       api.Errno
	}{{2, 0, api.ErrNone}, {0, 100, api.ErrNone}, {1, 6, api.ErrSpace}, {1, 16384, api.ErrSpace}} {
		what := fmt.Sprintf("Write(%d, 3, %d bytes)", c.seq, c.size)
		ops++
		is(t, what, journal.Write(d, c.seq, 3, make([]byte, c.size)), c.err)
		used(t, what, d, ops)
		if now, lost := told(d), after(d, 0); now != fmt.Sprintf("5; j0000000000000001 %x", "loose") || lost != "0; j0000000000000001 " {
			t.Errorf("%s: the disk has %s, and after a crash %s", what, now, lost)
		}
	}
	is(t, "Write of what there is room for", journal.Write(d, 1, 3, make([]byte, 5)), api.OK)
}

func TestWriteEnded(t *testing.T) {
	first, second := plainBytes(1, []byte("a")), plainBytes(2, []byte("bcd"))
	for _, stop := range stops {
		for n, whole := range [][]byte{first, slices.Concat(first, second)} {
			d := holding(t, first)
			ops := d.Ops()
			d.Arm(stop.down(n), stop.fail(n))
			what := fmt.Sprintf("Write, %s at %d", stop.what, n)
			is(t, what, journal.Write(d, 1, 2, []byte("bcd")), stop.err)
			used(t, what, d, ops+1+n)
			for kept := range 26 {
				left := whole[:min(len(first)+kept, len(whole))]
				want := fmt.Sprintf("%d; j0000000000000001 %x", len(left), left)
				if got := after(d, 0, kept); got != want {
					t.Errorf("%s: after Crash(0, %d) the disk has %s, want %s", what, kept, got, want)
				}
			}
			if want := fmt.Sprintf("%d; j0000000000000001 %x", len(whole), whole); !d.Down() && told(d) != want {
				t.Errorf("%s: the disk has %s, want %s", what, told(d), want)
			}
		}
	}
}

// A payload is neither modified nor retained.
func TestWriteLeavesPayload(t *testing.T) {
	d := holding(t, nil)
	payload, untouched := spare([]byte("abcdef"))
	is(t, "Write", journal.Write(d, 1, 1, payload), api.OK)
	if !untouched() {
		t.Errorf("Write made %q of the payload", payload)
	}
	scribble(payload)
	if got, want := told(d), fmt.Sprintf("26; j0000000000000001 %x", plainBytes(1, []byte("abcdef"))); got != want {
		t.Errorf("the disk has %s, want %s", got, want)
	}
}

func TestRemove(t *testing.T) {
	for _, c := range []struct {
		segments []int
		err      api.Errno
		ops      int
		now      string // what is there then
		lost     string // what is there after a crash
	}{
		{nil, api.OK, 0, "1 2 3 4", "1 2 3 4"},
		{[]int{}, api.OK, 0, "1 2 3 4", "1 2 3 4"},
		{[]int{1}, api.OK, 2, "2 3 4", "2 3 4"},
		{[]int{4}, api.OK, 2, "1 2 3", "1 2 3"},
		{[]int{1, 2}, api.OK, 3, "3 4", "3 4"},
		{[]int{3, 1, 4}, api.OK, 4, "2", "2"},
		{[]int{4, 3, 2, 1}, api.OK, 5, "", ""},
		{[]int{5}, api.ErrNone, 1, "1 2 3 4", "1 2 3 4"},
		{[]int{0, 1}, api.ErrNone, 1, "1 2 3 4", "1 2 3 4"},
		{[]int{2, 5, 1}, api.ErrNone, 2, "1 3 4", "1 2 3 4"},
		{[]int{2, 1, 5}, api.ErrNone, 3, "3 4", "1 2 3 4"},
		{[]int{3, 3}, api.ErrNone, 2, "1 2 4", "1 2 3 4"},
		{[]int{3, most, 5}, api.ErrNone, 2, "1 2 4", "1 2 3 4"},
	} {
		d := holding(t, nil, nil, nil, nil)
		ops := d.Ops()
		what := fmt.Sprintf("Remove(%d)", c.segments)
		before := slices.Clone(c.segments)
		is(t, what, journal.Remove(d, c.segments...), c.err)
		used(t, what, d, ops+c.ops)
		if got := numbersOf(d); got != c.now {
			t.Errorf("%s: the disk has %s, want %s", what, got, c.now)
		}
		d.Crash(0)
		if got := numbersOf(d); got != c.lost {
			t.Errorf("%s: after a crash the disk has %s, want %s", what, got, c.lost)
		}
		if !slices.Equal(c.segments, before) {
			t.Errorf("%s made %d of its argument", what, c.segments)
		}
	}
}

// numbersOf returns the last digits of all names, with blanks between them.
func numbersOf(d *disk.Disk) string {
	l, _ := d.List()
	text := ""
	for i, name := range l {
		if i > 0 {
			text += " "
		}
		text += name[len(name)-1:]
	}
	return text
}

// All directory changes are durable after Remove, unless it has nothing to do.
func TestRemoveMakesDurable(t *testing.T) {
	d := holding(t, nil, nil)
	must(t, d.Rename(plainName(1), "t"))
	is(t, "Remove of nothing", journal.Remove(d), api.OK)
	if got, want := after(d, 0), "0; j0000000000000001 ; j0000000000000002 "; got != want {
		t.Errorf("after a Remove of nothing and a crash the disk has %s, want %s", got, want)
	}
	is(t, "Remove(2)", journal.Remove(d, 2), api.OK)
	if got, want := after(d, 0), "0; t "; got != want {
		t.Errorf("after Remove(2) and a crash the disk has %s, want %s", got, want)
	}
}

func TestRemoveEnded(t *testing.T) {
	for _, stop := range stops {
		for n, want := range []struct {
			ops  int
			now  string
			kept []string // after a crash that keeps 0, 1, .. changes
		}{
			{1, "1 2 3", []string{"1 2 3", "1 2 3", "1 2 3", "1 2 3"}},
			{2, "1 3", []string{"1 2 3", "1 3", "1 3", "1 3"}},
			{3, "1", []string{"1 2 3", "1 3", "1", "1"}},
			{4, "", []string{"1 2 3", "1 3", "1", ""}},
		} {
			d := holding(t, nil, nil, nil)
			ops := d.Ops()
			d.Arm(stop.down(n), stop.fail(n))
			what := fmt.Sprintf("Remove(2, 3, 1), %s at %d", stop.what, n)
			is(t, what, journal.Remove(d, 2, 3, 1), stop.err)
			used(t, what, d, ops+want.ops)
			if got := numbersOf(d.Copy()); !d.Down() && got != want.now {
				t.Errorf("%s: the disk has %s, want %s", what, got, want.now)
			}
			for names, left := range want.kept {
				c := d.Copy()
				c.Crash(names)
				if got := numbersOf(c); got != left {
					t.Errorf("%s: after Crash(%d) the disk has %s, want %s", what, names, got, left)
				}
			}
		}
	}
}

// On a disk that is down, only a Remove of nothing is done.
func TestDown(t *testing.T) {
	d := holding(t, plainBytes(1, nil))
	d.Arm(0, -1)
	is(t, "Sync", d.Sync(plainName(1)), api.ErrDown)
	ops := d.Ops()
	is(t, "Remove of nothing", journal.Remove(d), api.OK)
	used(t, "Remove of nothing", d, ops)
	is(t, "Begin", journal.Begin(d, 2), api.ErrDown)
	is(t, "Begin of one that is there", journal.Begin(d, 1), api.ErrDown)
	is(t, "Write", journal.Write(d, 1, 2, nil), api.ErrDown)
	is(t, "Write to one that isn't there", journal.Write(d, 2, 2, nil), api.ErrDown)
	is(t, "Remove", journal.Remove(d, 1), api.ErrDown)
	if l, whole, err := journal.Scan(d, 1); len(l) != 0 || whole || err != api.ErrDown {
		t.Errorf("Scan = %v, %v, %v, want nothing, false, %v", l, whole, err, api.ErrDown)
	}
	used(t, "one operation each", d, ops+6)
	d.Crash(0)
	d.Arm(-1, 0)
	is(t, "Remove of nothing", journal.Remove(d), api.OK)
	is(t, "Remove on a disk that fails", journal.Remove(d, 2), api.ErrIO)
}

// Nothing is said of a disk that New didn't make, but no call panics.
func TestNoDisk(t *testing.T) {
	for _, d := range []*disk.Disk{nil, {}} {
		is(t, "Begin", journal.Begin(d, 1), api.ErrDown)
		is(t, "Write", journal.Write(d, 1, 1, nil), api.ErrDown)
		is(t, "Remove", journal.Remove(d, 1), api.ErrDown)
		is(t, "Remove of nothing", journal.Remove(d), api.OK)
		if l, whole, err := journal.Scan(d, 1); len(l) != 0 || whole || err != api.ErrDown {
			t.Errorf("Scan = %v, %v, %v, want nothing, false, %v", l, whole, err, api.ErrDown)
		}
	}
}

// Numbers that nothing names may be passed too.
func TestNumbersBeyond(t *testing.T) {
	for _, seq := range []int{-1, -most, math.MinInt, most + 1, math.MaxInt} {
		for _, n := range []int{-1, math.MinInt} {
			d := disk.New(100000)
			journal.Begin(d, seq)
			journal.Write(d, seq, n, nil)
			journal.Write(d, seq, 1, make([]byte, 16385))
			if l, whole, err := journal.Scan(d, seq); err == api.OK && (len(l) != 0 || whole) {
				t.Errorf("Scan(%d) = %s, %v: it has no record", seq, show(l), whole)
			}
			journal.Remove(d, seq, seq)
		}
	}
}
