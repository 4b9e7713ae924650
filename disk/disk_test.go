package disk_test

import (
	"bytes"
	"fmt"
	"slices"
	"strings"
	"testing"

	"bagatelle/api"
	"bagatelle/disk"
)

// P17.1, and the chapter's example.
func TestExample(t *testing.T) {
	d := disk.New(1000)
	is(t, "Create", d.Create("a"), api.OK)
	is(t, "Append", d.Append("a", []byte("xyz")), api.OK)
	is(t, "Sync", d.Sync("a"), api.OK)
	with := d.Copy()
	d.Crash(0)
	has(t, "without a DirSync", d)
	is(t, "DirSync", with.DirSync(), api.OK)
	with.Crash(0)
	has(t, "with a DirSync", with, "a", "xyz")
}

// P17.1: New. A new disk has no files, and isn't down.
func TestNew(t *testing.T) {
	for _, room := range []int{-1 << 63, -1, 0, 1, 1<<63 - 1} {
		d := disk.New(room)
		l, err := d.List()
		if len(l) != 0 || err != api.OK {
			t.Errorf("New(%d) has the files %v, %v", room, l, err)
		}
		if d.Size() != 0 || d.Ops() != 1 || d.Down() {
			t.Errorf("New(%d) has %d bytes, %d operations, and is down: %v", room, d.Size(), d.Ops(), d.Down())
		}
	}
}

// goodNames and badNames are what a file name is, and isn't.
func goodNames() []string {
	return []string{
		"a", "z", "0", "9", "-", "m", "5", "t", "--", "a-z-0-9", "c0000000000000000",
		"abcdefghijklmnopqrstuvwx", "yz0123456789------------", strings.Repeat("z", 24),
	}
}

func badNames() []string {
	return []string{
		"", "A", "Z", "aB", "Ba", "`", "{", "/", ":", ",", ".", "a.b", "_", " ", "a ", " a", "a b", "a/b", "\x00", "a\x00",
		"a\n", "é", "aé", "ａ", "٣", "\xff", "a\xff", "a\x80b", "+", "@", "[", strings.Repeat("z", 25),
		"abcdefghijklmnopqrstuvwxy", strings.Repeat("z", 1000), strings.Repeat("é", 12), strings.Repeat("A", 24),
	}
}

// P17.1: what a file name is, for Create and for Rename.
func TestNames(t *testing.T) {
	for _, name := range goodNames() {
		d := disk.New(0)
		is(t, fmt.Sprintf("Create(%q)", name), d.Create(name), api.OK)
		has(t, "after Create", d, name, "")
		d = holding(t, "from", "xyz")
		is(t, fmt.Sprintf("Rename(from, %q)", name), d.Rename("from", name), api.OK)
		has(t, "after Rename", d, name, "xyz")
	}
	for _, name := range badNames() {
		d := holding(t, "from", "xyz")
		is(t, fmt.Sprintf("Create(%q)", name), d.Create(name), api.ErrArg)
		is(t, fmt.Sprintf("Rename(from, %q)", name), d.Rename("from", name), api.ErrArg)
		is(t, fmt.Sprintf("Append to %q", name), d.Append(name, nil), api.ErrNone)
		is(t, fmt.Sprintf("Sync(%q)", name), d.Sync(name), api.ErrNone)
		is(t, fmt.Sprintf("Rename(%q, b)", name), d.Rename(name, "b"), api.ErrNone)
		is(t, fmt.Sprintf("Rename of %q to itself", name), d.Rename(name, name), api.ErrNone)
		is(t, fmt.Sprintf("Remove(%q)", name), d.Remove(name), api.ErrNone)
		if b, err := d.Read(name); len(b) != 0 || err != api.ErrNone {
			t.Errorf("Read(%q): %q, %v", name, b, err)
		}
		has(t, "after errors", d, "from", "xyz")
	}
}

// P17.1: Create, up to 64 files, and its errors, of which the first one counts.
func TestCreate(t *testing.T) {
	d := disk.New(10)
	for i := range 64 {
		is(t, "Create", d.Create(fmt.Sprint("file-", i)), api.OK)
	}
	before := told(d)
	is(t, "Create of a 65th file", d.Create("more"), api.ErrFull)
	is(t, "Create of a 65th file that is there", d.Create("file-7"), api.ErrThere)
	is(t, "Create of a 65th file without a name", d.Create(""), api.ErrArg)
	is(t, "Create of a 65th file with a bad name", d.Create("More"), api.ErrArg)
	if got := told(d); got != before {
		t.Errorf("after errors the disk has %s, want %s", got, before)
	}
	is(t, "Rename among 64 files", d.Rename("file-7", "file-64"), api.OK)
	is(t, "Create of a 65th file after a Rename", d.Create("file-7"), api.ErrFull)
	is(t, "Rename over another file", d.Rename("file-64", "file-3"), api.OK)
	is(t, "Create of the 64th file again", d.Create("file-7"), api.OK)
	is(t, "Create of a 65th file", d.Create("more"), api.ErrFull)
	is(t, "Remove", d.Remove("file-0"), api.OK)
	is(t, "Create of the 64th file again", d.Create("more"), api.OK)
	is(t, "Create of a 65th file", d.Create("file-0"), api.ErrFull)
	d.Crash(70)
	is(t, "Create of a 65th file after a Crash", d.Create("file-0"), api.ErrFull)
	is(t, "Create of a file that is there after a Crash", d.Create("more"), api.ErrThere)
	d.Crash(0)
	d.Remove("more")
	d.Crash(0)
	is(t, "Create where a Remove is undone", d.Create("file-0"), api.ErrFull)
}

// P17.1: Create of a file that has been there gives an empty one.
func TestCreateAgain(t *testing.T) {
	d := holding(t, "a", "xyz")
	is(t, "Create of a file that is there", d.Create("a"), api.ErrThere)
	has(t, "after ErrThere", d, "a", "xyz")
	is(t, "Remove", d.Remove("a"), api.OK)
	is(t, "Create", d.Create("a"), api.OK)
	has(t, "after Create", d, "a", "")
	is(t, "Create of the new file", d.Create("a"), api.ErrThere)
	is(t, "Append", d.Append("a", []byte("new")), api.OK)
	has(t, "after Append", d, "a", "new")
	leaves(t, d, 0, []int{2}, "a", "xyz")
	leaves(t, d, 1, []int{2})
	leaves(t, d, 2, []int{2}, "a", "ne")
}

// P17.1: Append, up to the last byte for which there is room, and its errors.
func TestAppend(t *testing.T) {
	d := disk.New(10)
	is(t, "Append without a file", d.Append("a", []byte("x")), api.ErrNone)
	is(t, "Append of too much without a file", d.Append("a", make([]byte, 11)), api.ErrNone)
	must(t, d.Create("a"), d.Create("b"))
	is(t, "Append of too much", d.Append("a", make([]byte, 11)), api.ErrSpace)
	has(t, "after ErrSpace", d, "a", "", "b", "")
	is(t, "Append", d.Append("a", []byte("abcdef")), api.OK)
	is(t, "Append", d.Append("b", []byte("012")), api.OK)
	is(t, "Append of nothing", d.Append("b", nil), api.OK)
	is(t, "Append of nothing", d.Append("b", []byte{}), api.OK)
	has(t, "with one byte free", d, "a", "abcdef", "b", "012")
	is(t, "Append of two bytes", d.Append("a", []byte("gh")), api.ErrSpace)
	is(t, "Append of two bytes", d.Append("b", []byte("gh")), api.ErrSpace)
	has(t, "after ErrSpace", d, "a", "abcdef", "b", "012")
	is(t, "Append of one byte", d.Append("a", []byte("g")), api.OK)
	is(t, "Append of nothing to a full disk", d.Append("b", nil), api.OK)
	is(t, "Append of one byte to a full disk", d.Append("b", []byte("3")), api.ErrSpace)
	has(t, "when full", d, "a", "abcdefg", "b", "012")
	is(t, "Remove", d.Remove("b"), api.OK)
	is(t, "Append where three bytes are free", d.Append("a", []byte("hijk")), api.ErrSpace)
	is(t, "Append where three bytes are free", d.Append("a", []byte("hij")), api.OK)
	has(t, "when full again", d, "a", "abcdefghij")
}

// P17.1: without room, only nothing can be appended.
func TestNoRoom(t *testing.T) {
	for _, room := range []int{0, -1, -1 << 63} {
		d := disk.New(room)
		is(t, "Create", d.Create("a"), api.OK)
		is(t, "Append of nothing", d.Append("a", nil), api.OK)
		is(t, "Append of a byte", d.Append("a", []byte("x")), api.ErrSpace)
		has(t, "without room", d, "a", "")
	}
}

// P17.1: a crash may bring back a removed file where there is no room for it;
// then there are more bytes than there is room for, and no others.
func TestTooMuch(t *testing.T) {
	d := disk.New(10)
	must(t, d.Create("a"), d.Create("b"), d.Append("a", []byte("abcdef")), d.Sync("a"), d.DirSync())
	must(t, d.Remove("a"), d.Append("b", []byte("01234567")), d.Sync("b"))
	d.Crash(0)
	has(t, "after the Crash", d, "a", "abcdef", "b", "01234567")
	is(t, "Append of a byte", d.Append("b", []byte("8")), api.ErrSpace)
	is(t, "Append of nothing", d.Append("b", nil), api.ErrSpace)
	must(t, d.Remove("a"))
	is(t, "Append of two bytes", d.Append("b", []byte("89")), api.OK)
}

// P17.1: the bytes that are appended are copied, those that are read are new.
func TestMemory(t *testing.T) {
	d := disk.New(1000)
	must(t, d.Create("a"))
	given, untouched := spare([]byte("abc"))
	must(t, d.Append("a", given), d.Append("a", given))
	if !untouched() {
		t.Error("Append changed its argument")
	}
	copy(given, "xyz")
	has(t, "after a change of the argument", d, "a", "abcabc")
	b, _ := d.Read("a")
	copy(b, "xyz")
	_ = append(b, "more"...)
	must(t, d.Append("a", []byte("d")))
	has(t, "after a change of the answer", d, "a", "abcabcd")
	if string(b) != "xyzabc" {
		t.Errorf("an Append changed an answer to %q", b)
	}
	l, _ := d.List()
	l[0] = "b"
	has(t, "after a change of the names", d, "a", "abcabcd")
	kept, names := []int{5, 6}, []int{5, 6}
	d.Crash(0, kept...)
	if !slices.Equal(kept, names) {
		t.Errorf("Crash changed its argument to %v", kept)
	}
}

// P17.1: Sync makes durable what a file has then, and only of that file.
func TestSync(t *testing.T) {
	d := disk.New(1000)
	is(t, "Sync without a file", d.Sync("a"), api.ErrNone)
	must(t, d.Create("a"), d.Create("b"), d.DirSync(), d.Append("a", []byte("abc")), d.Append("b", []byte("012")))
	leaves(t, d, 0, nil, "a", "", "b", "")
	is(t, "Sync", d.Sync("a"), api.OK)
	leaves(t, d, 0, nil, "a", "abc", "b", "")
	must(t, d.Append("a", []byte("def")))
	leaves(t, d, 0, nil, "a", "abc", "b", "")
	must(t, d.Sync("a"), d.Sync("a"))
	leaves(t, d, 0, nil, "a", "abcdef", "b", "")
	has(t, "after Sync", d, "a", "abcdef", "b", "012")
}

// P17.1: a Sync of a file doesn't make its name durable, nor DirSync its bytes.
func TestDirSync(t *testing.T) {
	d := disk.New(1000)
	is(t, "DirSync without changes", d.DirSync(), api.OK)
	must(t, d.Create("a"), d.Append("a", []byte("abc")), d.Sync("a"))
	leaves(t, d, 0, nil)
	is(t, "DirSync", d.DirSync(), api.OK)
	must(t, d.Append("a", []byte("def")))
	leaves(t, d, 0, nil, "a", "abc")
	is(t, "DirSync", d.DirSync(), api.OK)
	leaves(t, d, 0, nil, "a", "abc")
	must(t, d.Rename("a", "b"))
	leaves(t, d, 0, nil, "a", "abc")
	must(t, d.DirSync())
	leaves(t, d, 0, nil, "b", "abc")
	must(t, d.Remove("b"))
	leaves(t, d, 0, nil, "b", "abc")
	must(t, d.DirSync())
	leaves(t, d, 0, nil)
}

// P17.1: Rename, and its errors, of which the first one counts.
func TestRename(t *testing.T) {
	d := holding(t, "a", "abc", "b", "012")
	is(t, "Rename without a file", d.Rename("c", "d"), api.ErrNone)
	is(t, "Rename without a file, over one", d.Rename("c", "a"), api.ErrNone)
	is(t, "Rename without a file, to a bad name", d.Rename("c", "D"), api.ErrNone)
	is(t, "Rename to a bad name", d.Rename("a", "D"), api.ErrArg)
	has(t, "after errors", d, "a", "abc", "b", "012")
	is(t, "Rename", d.Rename("a", "c"), api.OK)
	has(t, "after Rename", d, "b", "012", "c", "abc")
	is(t, "Append", d.Append("c", []byte("d")), api.OK)
	is(t, "Rename over another file", d.Rename("c", "b"), api.OK)
	has(t, "after Rename", d, "b", "abcd")
	leaves(t, d, 0, []int{1}, "a", "abcd", "b", "012")
	leaves(t, d, 1, nil, "b", "012", "c", "abc")
	leaves(t, d, 2, nil, "b", "abc")
	if d.Size() != 4 {
		t.Errorf("the disk has %d bytes, want 4", d.Size())
	}
}

// P17.1: a Rename to the same name does nothing, and isn't a directory change.
func TestRenameItself(t *testing.T) {
	d := holding(t, "a", "abc")
	is(t, "Rename to the same name", d.Rename("a", "a"), api.OK)
	must(t, d.Append("a", []byte("d")), d.Create("b"))
	has(t, "after Rename", d, "a", "abcd", "b", "")
	leaves(t, d, 0, nil, "a", "abc")
	leaves(t, d, 1, nil, "a", "abc", "b", "")
}

// P17.1: Remove, which makes room, and a name free.
func TestRemove(t *testing.T) {
	d := holding(t, "a", "abc", "b", "012")
	is(t, "Remove without a file", d.Remove("c"), api.ErrNone)
	is(t, "Remove", d.Remove("a"), api.OK)
	is(t, "Remove again", d.Remove("a"), api.ErrNone)
	has(t, "after Remove", d, "b", "012")
	if d.Size() != 3 {
		t.Errorf("the disk has %d bytes, want 3", d.Size())
	}
	is(t, "Rename to a free name", d.Rename("b", "a"), api.OK)
	has(t, "after Rename", d, "a", "012")
	leaves(t, d, 0, nil, "a", "abc", "b", "012")
	leaves(t, d, 1, nil, "b", "012")
	leaves(t, d, 2, nil, "a", "012")
}

// P17.1: List, in ascending order, and Read.
func TestListAndRead(t *testing.T) {
	d := disk.New(1000)
	given := []string{"b", "a", "z9", "-", "ab", "0", "a-", "9", "a0", "z", "10"}
	for _, name := range given {
		must(t, d.Create(name), d.Append(name, []byte(name+name)))
	}
	want := []string{"-", "0", "10", "9", "a", "a-", "a0", "ab", "b", "z", "z9"}
	for range 20 {
		if l, err := d.List(); !slices.Equal(l, want) || err != api.OK {
			t.Fatalf("List: %v, %v, want %v", l, err, want)
		}
	}
	for _, name := range want {
		if b, err := d.Read(name); string(b) != name+name || err != api.OK {
			t.Errorf("Read(%s): %q, %v", name, b, err)
		}
	}
	if b, err := d.Read("c"); len(b) != 0 || err != api.ErrNone {
		t.Errorf("Read without a file: %q, %v", b, err)
	}
}

// P17.1: Bend of a file, which isn't an operation, and leaves durable what was.
func TestBend(t *testing.T) {
	d := holding(t, "a", "abc", "b", "012")
	must(t, d.Append("a", []byte("def")))
	ops := d.Ops()
	if d.Bend("c", 0, 1) || d.Bend("", 0, 1) || d.Bend("A", 0, 1) {
		t.Error("Bend without a file: true")
	}
	has(t, "without a Bend", d, "a", "abcdef", "b", "012")
	if !d.Bend("a", 23, 3) {
		t.Error("Bend of a file: false")
	}
	has(t, "after Bend", d, "a", "ab\xe3eef", "b", "012")
	leaves(t, d, 0, nil, "a", "ab\xe3", "b", "012")
	leaves(t, d, 0, []int{1}, "a", "ab\xe3e", "b", "012")
	for _, at := range []int{-32, -1 << 63, 48, 1<<63 - 1} {
		if !d.Bend("a", at, 1<<32-1) {
			t.Error("Bend beyond a file: false")
		}
	}
	if !d.Bend("a", 0, 0) || d.Ops() != ops {
		t.Errorf("Bend was an operation: %d of them, want %d", d.Ops(), ops)
	}
	has(t, "after Bend of no bit", d, "a", "ab\xe3eef", "b", "012")
	must(t, d.Create("e"))
	if !d.Bend("e", 0, 1<<32-1) {
		t.Error("Bend of an empty file: false")
	}
	has(t, "after Bend of an empty file", d, "a", "ab\xe3eef", "b", "012", "e", "")
	d.Arm(0, -1)
	is(t, "Sync", d.Sync("a"), api.ErrDown)
	if !d.Bend("b", 0, 1) {
		t.Error("Bend of a disk that is down: false")
	}
	d.Crash(0)
	has(t, "after a Crash", d, "a", "ab\xe3", "b", "112")
}

// P17.1: Copy is independent, and as the disk in everything.
func TestCopy(t *testing.T) {
	d := holding(t, "a", "abc")
	must(t, d.Append("a", []byte("d")), d.Create("b"), d.Append("b", []byte("01")))
	d.Arm(3, 1)
	c := d.Copy()
	if c.Ops() != d.Ops() || c.Down() || c.Size() != 6 {
		t.Errorf("the copy has %d operations and %d bytes, and is down: %v", c.Ops(), c.Size(), c.Down())
	}
	is(t, "Append", c.Append("a", []byte("e")), api.OK)
	is(t, "an operation that fails", c.Append("a", []byte("f")), api.ErrIO)
	is(t, "Append", c.Append("b", []byte("2")), api.OK)
	is(t, "an operation that finds no power", c.Append("b", []byte("3")), api.ErrDown)
	has(t, "the first one", d, "a", "abcd", "b", "01")
	is(t, "Append", d.Append("a", []byte("x")), api.OK)
	is(t, "an operation that fails", d.Append("a", []byte("f")), api.ErrIO)
	is(t, "Append", d.Append("b", []byte("y")), api.OK)
	if d.Down() || !c.Down() || !c.Copy().Down() {
		t.Errorf("down are the first one: %v, its copy: %v, its copy's: %v", d.Down(), c.Down(), c.Copy().Down())
	}
	leaves(t, c, 0, []int{1, 2}, "a", "abcd")
	leaves(t, c, 1, []int{2, 9}, "a", "abcde", "b", "012")
	leaves(t, d, 1, []int{2, 9}, "a", "abcdx", "b", "01y")
	d.Crash(1, 1, 1)
	c.Crash(0, 2)
	has(t, "the first one", d, "a", "abcd", "b", "0")
	has(t, "the copy", c, "a", "abcde")
	must(t, c.Create("b"), c.Append("b", []byte("new")), d.Append("b", []byte("old")))
	has(t, "the first one", d, "a", "abcd", "b", "0old")
	has(t, "the copy", c, "a", "abcde", "b", "new")
}

// P17.1: a copy's files and the disk's don't grow into the same memory.
func TestCopyGrows(t *testing.T) {
	d := disk.New(1000)
	must(t, d.Create("a"))
	for i := range 100 {
		must(t, d.Append("a", []byte("x")))
		c := d.Copy()
		before := told(d)
		must(t, c.Append("a", []byte("yz")))
		if !c.Bend("a", 0, 1) || told(d) != before {
			t.Fatalf("with %d bytes: a copy's Append or Bend is the disk's too", i+1)
		}
		must(t, d.Append("a", []byte("x")))
		if b, _ := c.Read("a"); !bytes.HasSuffix(b, []byte("yz")) {
			t.Fatalf("with %d bytes: the disk's Append is the copy's too: %q", i+1, b)
		}
	}
}

// P17.1: the directory changes of a copy aren't those of the disk, however many
// they have in common.
func TestCopyChanges(t *testing.T) {
	d := disk.New(1000)
	for i := range 20 {
		c, other := d.Copy(), d.Copy()
		must(t, d.Create(fmt.Sprint("f", i)), c.Create("c"), other.Create("other"))
		leaves(t, d, i, nil, empty(i)...)
		leaves(t, c, i, nil, empty(i)...)
		leaves(t, d, i+1, nil, empty(i, fmt.Sprint("f", i))...)
		leaves(t, c, i+1, nil, empty(i, "c")...)
		leaves(t, other, i+1, nil, empty(i, "other")...)
	}
}

// empty returns the first n files f0, f1 and so on, and others, all without
// bytes, as name, bytes, name, bytes and so on, in ascending order.
func empty(n int, others ...string) []string {
	for i := range n {
		others = append(others, fmt.Sprint("f", i))
	}
	slices.Sort(others)
	var l []string
	for _, name := range others {
		l = append(l, name, "")
	}
	return l
}

// P0: a disk that isn't one doesn't panic either.
func TestNone(t *testing.T) {
	for _, d := range []*disk.Disk{nil, new(disk.Disk)} {
		for _, o := range append(operations(), wrongs()...) {
			is(t, o.name, o.do(d), api.ErrDown)
		}
		d.Arm(-1, -1)
		d.Crash(1, 1)
		if d.Bend("a", 0, 1) || d.Size() != 0 || d.Ops() != 0 || !d.Down() || d.Copy() != nil {
			t.Error("a disk that New didn't make has something")
		}
		is(t, "Create", d.Create("a"), api.ErrDown)
	}
}
