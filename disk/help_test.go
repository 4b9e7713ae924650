package disk_test

import (
	"bytes"
	"fmt"
	"maps"
	"slices"
	"strings"
	"testing"

	"bagatelle/api"
	"bagatelle/disk"
)

// noise returns a function that returns numbers, always the same.
func noise() func() uint64 {
	state := uint64(88172645463325252)
	return func() uint64 {
		state ^= state << 13
		state ^= state >> 7
		state ^= state << 17
		return state
	}
}

// upTo returns a number from 0 to n - 1.
func upTo(n int, next func() uint64) int {
	return int(next() >> 20 % uint64(n))
}

// A plainFile has bytes, of which the first sure ones are durable.
type plainFile struct {
	bytes []byte
	sure  int
}

// A plainDisk is the chapter's disk, said in another way: it remembers all
// files and what the directory was after each change that isn't durable.
type plainDisk struct {
	room     int
	files    []*plainFile
	dirs     []map[string]*plainFile // the durable one first, the present one last
	ops      int
	off      bool
	downIn   int // how many operations come before those, from now on
	failIn   int
	downSet  bool
	failsSet bool
}

// plainNew is the chapter's New.
func plainNew(room int) *plainDisk {
	if room < 0 {
		room = 0
	}
	return &plainDisk{room: room, dirs: []map[string]*plainFile{{}}}
}

// dir is the present directory.
func (p *plainDisk) dir() map[string]*plainFile {
	return p.dirs[len(p.dirs)-1]
}

// enter is what comes ahead of each operation.
func (p *plainDisk) enter() api.Errno {
	p.ops++
	if p.downSet && p.downIn == 0 {
		p.off = true
	}
	fails := p.failsSet && p.failIn == 0
	p.downIn--
	p.failIn--
	switch {
	case p.off:
		return api.ErrDown
	case fails:
		return api.ErrIO
	}
	return api.OK
}

// plainName is the chapter's file name.
func plainName(s string) bool {
	return len(s) > 0 && len(s) < 25 && strings.Trim(s, "abcdefghijklmnopqrstuvwxyz0123456789-") == ""
}

// other makes another directory the present one: a copy, changed by turn.
func (p *plainDisk) other(turn func(dir map[string]*plainFile)) {
	dir := maps.Clone(p.dir())
	turn(dir)
	p.dirs = append(p.dirs, dir)
}

func (p *plainDisk) Create(name string) api.Errno {
	if err := p.enter(); err != api.OK {
		return err
	}
	switch _, there := p.dir()[name]; {
	case !plainName(name):
		return api.ErrArg
	case there:
		return api.ErrThere
	case len(p.dir()) == 64:
		return api.ErrFull
	}
	f := &plainFile{}
	p.files = append(p.files, f)
	p.other(func(dir map[string]*plainFile) { dir[name] = f })
	return api.OK
}

func (p *plainDisk) Append(name string, b []byte) api.Errno {
	if err := p.enter(); err != api.OK {
		return err
	}
	f, there := p.dir()[name]
	switch {
	case !there:
		return api.ErrNone
	case p.Size()+len(b) > p.room:
		return api.ErrSpace
	}
	f.bytes = slices.Concat(f.bytes, b)
	return api.OK
}

func (p *plainDisk) Sync(name string) api.Errno {
	if err := p.enter(); err != api.OK {
		return err
	}
	f, there := p.dir()[name]
	if !there {
		return api.ErrNone
	}
	f.sure = len(f.bytes)
	return api.OK
}

func (p *plainDisk) DirSync() api.Errno {
	if err := p.enter(); err != api.OK {
		return err
	}
	p.dirs = p.dirs[len(p.dirs)-1:]
	return api.OK
}

func (p *plainDisk) Rename(from, to string) api.Errno {
	if err := p.enter(); err != api.OK {
		return err
	}
	f, there := p.dir()[from]
	switch {
	case !there:
		return api.ErrNone
	case !plainName(to):
		return api.ErrArg
	case from == to:
		return api.OK
	}
	p.other(func(dir map[string]*plainFile) {
		dir[to] = f
		delete(dir, from)
	})
	return api.OK
}

func (p *plainDisk) Remove(name string) api.Errno {
	if err := p.enter(); err != api.OK {
		return err
	}
	if _, there := p.dir()[name]; !there {
		return api.ErrNone
	}
	p.other(func(dir map[string]*plainFile) { delete(dir, name) })
	return api.OK
}

func (p *plainDisk) List() ([]string, api.Errno) {
	if err := p.enter(); err != api.OK {
		return nil, err
	}
	return p.names(), api.OK
}

// names are all names, in ascending order.
func (p *plainDisk) names() []string {
	return slices.Sorted(maps.Keys(p.dir()))
}

func (p *plainDisk) Read(name string) ([]byte, api.Errno) {
	if err := p.enter(); err != api.OK {
		return nil, err
	}
	f, there := p.dir()[name]
	if !there {
		return nil, api.ErrNone
	}
	return f.bytes, api.OK
}

func (p *plainDisk) Arm(down, fail int) {
	p.downIn, p.downSet = down, down >= 0
	p.failIn, p.failsSet = fail, fail >= 0
}

func (p *plainDisk) Crash(names int, kept ...int) {
	at := 0
	for at < names && at < len(p.dirs)-1 {
		at++
	}
	next := 0
	for _, f := range p.files {
		if f.sure == len(f.bytes) {
			continue
		}
		for i := 0; next < len(kept) && i < kept[next] && f.sure < len(f.bytes); i++ {
			f.sure++
		}
		next++
		f.bytes = slices.Clone(f.bytes[:f.sure])
	}
	p.dirs = p.dirs[at : at+1]
	p.files = slices.DeleteFunc(p.files, func(f *plainFile) bool {
		for _, other := range p.dir() {
			if f == other {
				return false
			}
		}
		return true
	})
	p.off, p.downSet, p.failsSet = false, false, false
}

func (p *plainDisk) Bend(name string, at int, mask uint32) bool {
	f, there := p.dir()[name]
	if !there {
		return false
	}
	bent := slices.Clone(f.bytes)
	for i := range 32 {
		for j := range bent {
			if at < 8*len(bent) && (at+i)>>3 == j && mask>>i&1 == 1 {
				bent[j] ^= 1 << ((at + i) & 7)
			}
		}
	}
	f.bytes = bent
	return true
}

func (p *plainDisk) Size() int {
	size := 0
	for _, f := range p.dir() {
		size += len(f.bytes)
	}
	return size
}

// A disker is a disk, or a plain one.
type disker interface {
	Create(name string) api.Errno
	Append(name string, b []byte) api.Errno
	Sync(name string) api.Errno
	DirSync() api.Errno
	Rename(from, to string) api.Errno
	Remove(name string) api.Errno
	List() ([]string, api.Errno)
	Read(name string) ([]byte, api.Errno)
	Arm(down, fail int)
	Crash(names int, kept ...int)
	Bend(name string, at int, mask uint32) bool
	Size() int
}

// told returns all that a disk tells of its files, without an operation on it.
func told(d *disk.Disk) string {
	c := d.Copy()
	c.Arm(-1, -1)
	if c.Down() {
		return fmt.Sprint("down, with ", c.Size(), " bytes")
	}
	l, err := c.List()
	text := []string{fmt.Sprint(err)}
	for _, name := range l {
		b, err := c.Read(name)
		text = append(text, fmt.Sprintf("%s %q %v", name, b, err))
	}
	return strings.Join(append(text, fmt.Sprint(c.Size())), "; ")
}

// files tells what told tells of a disk that isn't down, given as name, bytes,
// name, bytes and so on.
func files(l ...string) string {
	text := []string{fmt.Sprint(api.OK)}
	size := 0
	for i := 0; i < len(l); i += 2 {
		text = append(text, fmt.Sprintf("%s %q %v", l[i], l[i+1], api.OK))
		size += len(l[i+1])
	}
	return strings.Join(append(text, fmt.Sprint(size)), "; ")
}

// told tells the same of a plain disk.
func (p *plainDisk) told() string {
	if p.off {
		return fmt.Sprint("down, with ", p.Size(), " bytes")
	}
	var l []string
	for _, name := range p.names() {
		l = append(l, name, string(p.dir()[name].bytes))
	}
	return files(l...)
}

// has reports an error if the disk has other files than those.
func has(t *testing.T, what string, d *disk.Disk, l ...string) {
	t.Helper()
	if got, want := told(d), files(l...); got != want {
		t.Errorf("%s: the disk has %s, want %s", what, got, want)
	}
}

// is reports an error if an operation returned another error than that.
func is(t *testing.T, what string, got, want api.Errno) {
	t.Helper()
	if got != want {
		t.Errorf("%s: %v, want %v", what, got, want)
	}
}

// must stops the test if an operation that a test needs returns an error.
func must(t *testing.T, errs ...api.Errno) {
	t.Helper()
	for i, err := range errs {
		if err != api.OK {
			t.Fatalf("step %d: %v", i, err)
		}
	}
}

// holding returns a disk with room for 1000 bytes and these files, all durable.
func holding(t *testing.T, l ...string) *disk.Disk {
	t.Helper()
	d := disk.New(1000)
	for i := 0; i < len(l); i += 2 {
		must(t, d.Create(l[i]), d.Append(l[i], []byte(l[i+1])), d.Sync(l[i]))
	}
	must(t, d.DirSync())
	return d
}

// after returns the files of a copy of the disk after that crash.
func after(d *disk.Disk, names int, kept ...int) string {
	c := d.Copy()
	c.Crash(names, kept...)
	return told(c)
}

// leaves reports an error if the disk has other files than those after a crash.
func leaves(t *testing.T, d *disk.Disk, names int, kept []int, l ...string) {
	t.Helper()
	if got, want := after(d, names, kept...), files(l...); got != want {
		t.Errorf("after Crash(%d, %v) the disk has %s, want %s", names, kept, got, want)
	}
}

// spare returns b in memory that goes on behind it, and a function that
// reports whether all of that memory is as it was.
func spare(b []byte) ([]byte, func() bool) {
	memory := append(slices.Clone(b), bytes.Repeat([]byte{0xa5}, 40)...)
	before := slices.Clone(memory)
	return memory[:len(b)], func() bool { return bytes.Equal(memory, before) }
}

// An operation has a name, and is done to a disk.
type operation struct {
	name string
	do   func(d disker) api.Errno
}

// operations are all kinds of operations, each of which could be done to a disk
// that has a, and not b.
func operations() []operation {
	return []operation{
		{"Create", func(d disker) api.Errno { return d.Create("b") }},
		{"Append", func(d disker) api.Errno { return d.Append("a", []byte("x")) }},
		{"Sync", func(d disker) api.Errno { return d.Sync("a") }},
		{"DirSync", func(d disker) api.Errno { return d.DirSync() }},
		{"Rename", func(d disker) api.Errno { return d.Rename("a", "b") }},
		{"Remove", func(d disker) api.Errno { return d.Remove("a") }},
		{"List", func(d disker) api.Errno { _, err := d.List(); return err }},
		{"Read", func(d disker) api.Errno { _, err := d.Read("a"); return err }},
	}
}

// wrongs are operations that return an error on a disk that has a, and not b,
// and has no room.
func wrongs() []operation {
	return []operation{
		{"Create of no name", func(d disker) api.Errno { return d.Create("") }},
		{"Create of a", func(d disker) api.Errno { return d.Create("a") }},
		{"Append to b", func(d disker) api.Errno { return d.Append("b", nil) }},
		{"Append of too much", func(d disker) api.Errno { return d.Append("a", make([]byte, 2000)) }},
		{"Sync of b", func(d disker) api.Errno { return d.Sync("b") }},
		{"Rename of b", func(d disker) api.Errno { return d.Rename("b", "c") }},
		{"Rename to no name", func(d disker) api.Errno { return d.Rename("a", "") }},
		{"Remove of b", func(d disker) api.Errno { return d.Remove("b") }},
		{"Read of b", func(d disker) api.Errno { _, err := d.Read("b"); return err }},
	}
}
