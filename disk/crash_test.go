package disk_test

import (
	"fmt"
	"testing"

	"bagatelle/api"
	"bagatelle/disk"
)

// P17.1: every kind of operation is counted, also one that returns an error,
// and nothing else is.
func TestOps(t *testing.T) {
	for _, o := range operations() {
		d := holding(t, "a", "abc")
		before := d.Ops()
		is(t, o.name, o.do(d), api.OK)
		if d.Ops() != before+1 {
			t.Errorf("%s: %d operations, want 1", o.name, d.Ops()-before)
		}
	}
	for _, o := range wrongs() {
		d := holding(t, "a", "abc")
		before, was := d.Ops(), told(d)
		if o.do(d) == api.OK {
			t.Errorf("%s: OK", o.name)
		}
		if d.Ops() != before+1 || told(d) != was {
			t.Errorf("%s: %d operations, want 1; the disk has %s, want %s", o.name, d.Ops()-before, told(d), was)
		}
	}
	d := holding(t, "a", "abc")
	before := d.Ops()
	d.Arm(5, 5)
	d.Bend("a", 0, 1)
	d.Bend("b", 0, 1)
	d.Size()
	d.Ops()
	d.Down()
	if c := d.Copy(); c.Ops() != before {
		t.Errorf("the copy has %d operations, want %d", c.Ops(), before)
	}
	d.Crash(1, 1)
	if d.Ops() != before {
		t.Errorf("%d operations, want %d", d.Ops(), before)
	}
}

// P17.1: a disk goes down before an operation, which returns ErrDown and has no
// effect, and stays down until a Crash.
func TestDown(t *testing.T) {
	all := append(operations(), wrongs()...)
	for _, o := range all {
		for n := range 3 {
			d := holding(t, "a", "abc")
			d.Arm(n, -1)
			for range n {
				must(t, d.Append("a", nil))
			}
			if d.Down() {
				t.Errorf("%s: the disk is down ahead of operation %d", o.name, n)
			}
			ops := d.Ops()
			is(t, o.name, o.do(d), api.ErrDown)
			if !d.Down() || d.Size() != 3 {
				t.Errorf("%s: the disk is down: %v, with %d bytes", o.name, d.Down(), d.Size())
			}
			d.Arm(-1, 0)
			for _, other := range all {
				is(t, o.name+", then "+other.name, other.do(d), api.ErrDown)
			}
			if got := d.Ops() - ops; got != 1+len(all) || !d.Down() {
				t.Errorf("%s: %d operations, want %d; down: %v", o.name, got, 1+len(all), d.Down())
			}
			d.Crash(9, 9)
			has(t, o.name+" and a Crash", d, "a", "abc")
			if d.Down() {
				t.Errorf("%s: the disk is down after a Crash", o.name)
			}
		}
	}
}

// P17.1: a disk fails at an operation, which returns ErrIO and has no effect;
// those ahead of it and behind it are as ever.
func TestFail(t *testing.T) {
	for _, o := range append(operations(), wrongs()...) {
		for n := range 3 {
			d := holding(t, "a", "abc")
			must(t, d.Append("a", []byte("d")), d.Create("c"))
			before := told(d)
			d.Arm(-1, n)
			for range n {
				must(t, d.Append("a", nil))
			}
			is(t, o.name, o.do(d), api.ErrIO)
			if d.Down() || told(d) != before {
				t.Errorf("%s: down: %v; the disk has %s, want %s", o.name, d.Down(), told(d), before)
			}
			leaves(t, d, 0, nil, "a", "abc")
			leaves(t, d, 1, []int{1}, "a", "abcd", "c", "")
			if err := o.do(d); err == api.ErrIO || err == api.ErrDown {
				t.Errorf("%s once more: %v", o.name, err)
			}
		}
	}
}

// P17.1: with an error, List and Read return nothing else.
func TestNothing(t *testing.T) {
	for _, armed := range [][2]int{{0, -1}, {-1, 0}, {0, 0}} {
		d := holding(t, "a", "abc")
		d.Arm(armed[0], armed[1])
		if l, err := d.List(); len(l) != 0 || err == api.OK {
			t.Errorf("List: %v, %v", l, err)
		}
		d.Arm(armed[0], armed[1])
		if b, err := d.Read("a"); len(b) != 0 || err == api.OK {
			t.Errorf("Read: %q, %v", b, err)
		}
	}
}

// P17.1: Arm counts operations, with and without errors, from its call on.
func TestArm(t *testing.T) {
	for _, c := range []struct {
		down, fail int
		want       string
	}{
		{-1, -1, "0000000"}, {0, -1, "8888888"}, {-1, 0, "7000000"}, {3, -1, "0008888"}, {-1, 3, "0007000"},
		{0, 0, "8888888"}, {3, 3, "0008888"}, {2, 4, "0088888"}, {4, 2, "0070888"}, {6, 5, "0000078"}, {7, 7, "0000000"},
		{-1 << 63, -1 << 63, "0000000"}, {1<<63 - 1, 1<<63 - 1, "0000000"}, {-2, 1, "0700000"}, {1, -7, "0888888"},
	} {
		for _, earlier := range []int{0, 1, 5} {
			d := holding(t, "a", "abc")
			d.Arm(earlier+2, earlier+2)
			for range earlier {
				must(t, d.Sync("a"))
			}
			d.Arm(c.down, c.fail)
			got := ""
			for range c.want {
				got += fmt.Sprint(int(d.Sync("a")))
			}
			if got != c.want {
				t.Errorf("after Arm(%d, %d), and %d operations ahead of it: %s, want %s", c.down, c.fail, earlier, got, c.want)
			}
		}
	}
	d := holding(t, "a", "abc")
	d.Arm(4, 2)
	is(t, "Create of a", d.Create("a"), api.ErrThere)
	is(t, "Read of b", d.Sync("b"), api.ErrNone)
	is(t, "the one that fails", d.Sync("b"), api.ErrIO)
	is(t, "Create of no name", d.Create(""), api.ErrArg)
	is(t, "the one that finds no power", d.Create(""), api.ErrDown)
}

// P17.1: a disk that is armed isn't down yet, and Arm can take that back.
func TestArmAgain(t *testing.T) {
	d := holding(t, "a", "abc")
	d.Arm(0, -1)
	if d.Down() {
		t.Error("the disk is down ahead of the operation")
	}
	d.Arm(-1, -1)
	is(t, "Sync", d.Sync("a"), api.OK)
	d.Arm(1, 0)
	d.Arm(1, -1)
	is(t, "Sync", d.Sync("a"), api.OK)
	is(t, "Sync", d.Sync("a"), api.ErrDown)
	d.Arm(-1, -1)
	is(t, "Sync of a disk that stays down", d.Sync("a"), api.ErrDown)
}

// P17.1: Crash disarms the disk, whether it is down or not.
func TestCrashDisarms(t *testing.T) {
	for _, c := range [][3]int{{0, 1, 2}, {2, 3, 2}, {5, 3, 2}, {0, -1, 0}, {0, 0, 0}, {9, 9, 3}} {
		d := holding(t, "a", "abc")
		d.Arm(c[0], c[1])
		for range c[2] {
			d.Sync("a")
		}
		d.Crash(0)
		if d.Down() {
			t.Errorf("the disk is down after Arm(%d, %d), %d operations and a Crash", c[0], c[1], c[2])
		}
		for range 12 {
			is(t, "Sync", d.Sync("a"), api.OK)
		}
	}
}

// P17.1: of the directory changes that aren't durable the first ones are kept,
// in the order in which they were made.
func TestCrashNames(t *testing.T) {
	d := holding(t, "a", "abc", "b", "012")
	must(t, d.Create("c"), d.Rename("a", "d"), d.Remove("b"), d.Rename("c", "b"), d.Create("a"), d.Rename("d", "a"), d.Remove("a"))
	want := [][]string{
		{"a", "abc", "b", "012"},
		{"a", "abc", "b", "012", "c", ""},
		{"b", "012", "c", "", "d", "abc"},
		{"c", "", "d", "abc"},
		{"b", "", "d", "abc"},
		{"a", "", "b", "", "d", "abc"},
		{"a", "abc", "b", ""},
		{"b", ""},
	}
	for n, l := range want {
		leaves(t, d, n, nil, l...)
	}
	for _, n := range []int{-1, -1 << 63} {
		leaves(t, d, n, nil, want[0]...)
	}
	for _, n := range []int{8, 100, 1<<63 - 1} {
		leaves(t, d, n, nil, want[7]...)
	}
	has(t, "without a Crash", d, "b", "")
	is(t, "DirSync", d.DirSync(), api.OK)
	for _, n := range []int{-1, 0, 1, 100} {
		leaves(t, d, n, nil, want[7]...)
	}
}

// P17.1: what a crash leaves is durable, and its changes don't come back.
func TestCrashTwice(t *testing.T) {
	d := holding(t, "a", "abc")
	must(t, d.Create("b"), d.Append("b", []byte("0123")), d.Create("c"), d.Remove("a"))
	d.Crash(1, 2)
	has(t, "after a Crash", d, "a", "abc", "b", "01")
	leaves(t, d, 0, nil, "a", "abc", "b", "01")
	leaves(t, d, 9, []int{9, 9}, "a", "abc", "b", "01")
	must(t, d.Append("b", []byte("xy")), d.Create("c"))
	has(t, "after a Crash and more", d, "a", "abc", "b", "01xy", "c", "")
	leaves(t, d, 0, []int{1}, "a", "abc", "b", "01x")
	leaves(t, d, 1, nil, "a", "abc", "b", "01", "c", "")
}

// P17.1: of the bytes that aren't durable the first ones are kept, as many as
// kept says, and 0 for the files for which it has no number.
func TestCrashKept(t *testing.T) {
	d := holding(t, "a", "abc", "b", "", "c", "012")
	must(t, d.Append("c", []byte("345")), d.Append("a", []byte("def")), d.Append("b", []byte("xyz")))
	for _, c := range []struct {
		kept []int
		want []string
	}{
		{nil, []string{"abc", "", "012"}},
		{[]int{}, []string{"abc", "", "012"}},
		{[]int{1}, []string{"abcd", "", "012"}},
		{[]int{2, 1}, []string{"abcde", "x", "012"}},
		{[]int{0, 2, 3}, []string{"abc", "xy", "012345"}},
		{[]int{3, 3, 2, 1}, []string{"abcdef", "xyz", "01234"}},
		{[]int{4, 1000, 1<<63 - 1}, []string{"abcdef", "xyz", "012345"}},
		{[]int{-1, -1 << 63, 1}, []string{"abc", "", "0123"}},
		{[]int{-3, 9, -3}, []string{"abc", "xyz", "012"}},
	} {
		leaves(t, d, 0, c.kept, "a", c.want[0], "b", c.want[1], "c", c.want[2])
	}
}

// P17.1: numbers of kept are for those files that have bytes that aren't
// durable, in the order of creation, whatever their names are.
func TestCrashOrder(t *testing.T) {
	d := holding(t, "z", "", "y", "123", "x", "")
	must(t, d.Append("x", []byte("xx")), d.Append("z", []byte("zz")))
	leaves(t, d, 0, []int{1}, "x", "", "y", "123", "z", "z")
	leaves(t, d, 0, []int{1, 2}, "x", "xx", "y", "123", "z", "z")
	must(t, d.Append("y", []byte("4")))
	leaves(t, d, 0, []int{1, 0, 2}, "x", "xx", "y", "123", "z", "z")
	must(t, d.Sync("z"))
	leaves(t, d, 0, []int{1, 1}, "x", "x", "y", "1234", "z", "zz")
	must(t, d.Rename("x", "a"), d.Rename("y", "b"))
	leaves(t, d, 2, []int{0, 1}, "a", "x", "b", "123", "z", "zz")
	must(t, d.Rename("b", "c"), d.Rename("a", "b"), d.Rename("c", "a"))
	leaves(t, d, 9, []int{0, 1}, "a", "123", "b", "x", "z", "zz")
}

// P17.1: a number of kept is also for a file that is removed, or replaced, or
// whose Create is lost; and for no file that an earlier crash has taken.
func TestCrashLost(t *testing.T) {
	d := holding(t, "a", "abc")
	must(t, d.Create("b"), d.Append("b", []byte("012")), d.Create("c"), d.Append("c", []byte("uvw")))
	must(t, d.Create("d"), d.Append("d", []byte("d")), d.Append("a", []byte("def")))
	leaves(t, d, 0, []int{1, 2, 3}, "a", "abcd")
	leaves(t, d, 1, []int{1, 2, 3}, "a", "abcd", "b", "01")
	leaves(t, d, 2, []int{1, 2, 3}, "a", "abcd", "b", "01", "c", "uvw")
	must(t, d.Rename("c", "b"), d.Remove("a"))
	leaves(t, d, 3, []int{1, 2, 3, 1}, "a", "abcd", "b", "01", "c", "uvw", "d", "d")
	leaves(t, d, 4, []int{1, 2, 3, 1}, "a", "abcd", "b", "uvw", "d", "d")
	leaves(t, d, 5, []int{1, 2, 3, 1}, "b", "uvw", "d", "d")
	is(t, "DirSync", d.DirSync(), api.OK)
	leaves(t, d, 0, []int{1, 2, 3, 1}, "b", "uvw", "d", "d")
	leaves(t, d, 0, []int{9, 9, 0, 9}, "b", "", "d", "d")
	must(t, d.DirSync(), d.Sync("b"))
	leaves(t, d, 0, []int{9, 9, 1}, "b", "uvw", "d", "d")
	leaves(t, d, 0, []int{9, 9, 0}, "b", "uvw", "d", "")
	must(t, d.Remove("d"), d.DirSync(), d.Append("b", []byte("xyz")))
	leaves(t, d, 0, []int{9, 9, 1, 9}, "b", "uvwx")
	d.Crash(0, 9, 9, 2, 9)
	has(t, "after a Crash", d, "b", "uvwxy")
	must(t, d.Append("b", []byte("z")), d.Create("a"), d.Append("a", []byte("12")))
	leaves(t, d, 1, []int{1, 1}, "a", "1", "b", "uvwxyz")
}

// P17.1: a removed file, the Remove of which is lost, is there again with its
// durable bytes, and those that are kept.
func TestCrashBack(t *testing.T) {
	d := holding(t, "a", "abc")
	must(t, d.Append("a", []byte("def")), d.Remove("a"))
	has(t, "after Remove", d)
	is(t, "Append", d.Append("a", []byte("g")), api.ErrNone)
	leaves(t, d, 0, nil, "a", "abc")
	leaves(t, d, 0, []int{2}, "a", "abcde")
	leaves(t, d, 1, []int{2})
	must(t, d.Create("a"), d.Append("a", []byte("new")), d.Sync("a"))
	leaves(t, d, 0, []int{2}, "a", "abcde")
	leaves(t, d, 1, []int{2})
	leaves(t, d, 2, []int{2}, "a", "new")
	d.Crash(0, 2)
	must(t, d.Append("a", []byte("xyz")))
	has(t, "after a Crash and more", d, "a", "abcdexyz")
	leaves(t, d, 0, []int{1}, "a", "abcdex")
}

// P17.1: a crash of a disk without anything, and of one that is all durable.
func TestCrashNothing(t *testing.T) {
	for _, names := range []int{-1 << 63, -1, 0, 1, 1<<63 - 1} {
		d := disk.New(10)
		d.Crash(names, 1, 2, 3)
		has(t, "an empty disk", d)
		is(t, "Create", d.Create("a"), api.OK)
		d = holding(t, "a", "abc", "b", "")
		d.Crash(names, 1, 2, 3)
		has(t, "a durable disk", d, "a", "abc", "b", "")
	}
}
