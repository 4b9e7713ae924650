package disk_test

import (
	"fmt"
	"math"
	"runtime"
	"slices"
	"testing"

	"bagatelle/api"
	"bagatelle/disk"
)

// An act is something that is done to a disk, and what it returned, as a text.
type act struct {
	what string
	do   func(d disker) string
}

// anyName returns one of a few names, seldom a bad one.
func anyName(next func() uint64) string {
	if upTo(20, next) == 0 {
		return []string{"", "A", "abcdefghijklmnopqrstuvwxy"}[upTo(3, next)]
	}
	return []string{"a", "b", "c", "d-1", "t"}[upTo(5, next)]
}

// anyNumber returns a small number, or one around a limit.
func anyNumber(next func() uint64) int {
	if upTo(12, next) > 0 {
		return upTo(9, next) - 1
	}
	return []int{math.MinInt, -2, 100, math.MaxInt}[upTo(4, next)]
}

// anyAct returns something that can be done to a disk, most often an operation.
func anyAct(next func() uint64) act {
	name, other := anyName(next), anyName(next)
	n, k := anyNumber(next), anyNumber(next)
	b := make([]byte, upTo(7, next))
	for i := range b {
		b[i] = byte('a' + upTo(26, next))
	}
	kept := make([]int, upTo(5, next))
	for i := range kept {
		kept[i] = anyNumber(next)
	}
	mask := uint32(next() >> 7)
	acts := []act{
		{fmt.Sprintf("Create(%q)", name), func(d disker) string { return fmt.Sprint(d.Create(name)) }},
		{fmt.Sprintf("Append(%q, %q)", name, b), func(d disker) string { return fmt.Sprint(d.Append(name, b)) }},
		{fmt.Sprintf("Sync(%q)", name), func(d disker) string { return fmt.Sprint(d.Sync(name)) }},
		{"DirSync()", func(d disker) string { return fmt.Sprint(d.DirSync()) }},
		{fmt.Sprintf("Rename(%q, %q)", name, other), func(d disker) string { return fmt.Sprint(d.Rename(name, other)) }},
		{fmt.Sprintf("Remove(%q)", name), func(d disker) string { return fmt.Sprint(d.Remove(name)) }},
		{"List()", func(d disker) string { l, err := d.List(); return fmt.Sprintf("%q %v", l, err) }},
		{fmt.Sprintf("Read(%q)", name), func(d disker) string { c, err := d.Read(name); return fmt.Sprintf("%q %v", c, err) }},
		{fmt.Sprintf("Arm(%d, %d)", n, k), func(d disker) string { d.Arm(n, k); return "" }},
		{fmt.Sprintf("Crash(%d, %v)", n, kept), func(d disker) string { d.Crash(n, kept...); return "" }},
		{fmt.Sprintf("Bend(%q, %d, %d)", name, n, mask), func(d disker) string { return fmt.Sprint(d.Bend(name, n, mask)) }},
	}
	often := []int{0, 0, 0, 0, 1, 1, 1, 1, 1, 1, 2, 2, 3, 4, 4, 5, 5, 6, 7, 8, 9, 10}
	return acts[often[upTo(len(often), next)]]
}

// P17.1: whatever is done to a disk, and to a copy of it beside it, the disk is
// as the plain one in everything.
func TestMany(t *testing.T) {
	next := noise()
	for range 3000 {
		room := upTo(60, next)
		d, p := disk.New(room), plainNew(room)
		beside := disk.New(room)
		var did []string
		for range 40 {
			a := anyAct(next)
			did = append(did, a.what)
			if got, want := a.do(d), a.do(p); got != want {
				t.Fatalf("room %d, %v: %s, want %s", room, did, got, want)
			}
			if got, want := told(d), p.told(); got != want || d.Ops() != p.ops || d.Down() != p.off {
				t.Fatalf("room %d, %v: the disk has %s, want %s; %d operations, want %d; down: %v, want %v",
					room, did, got, want, d.Ops(), p.ops, d.Down(), p.off)
			}
			switch upTo(12, next) {
			case 0:
				beside = d.Copy()
			case 1:
				did = append(did, "Copy()")
				beside, d = d, d.Copy()
			}
			anyAct(next).do(beside)
		}
	}
}

// P17.1: every crash, at every operation of a run, and with every loss.
func TestEveryLoss(t *testing.T) {
	run := func(d disker) {
		d.Create("a")
		d.Append("a", []byte("ab"))
		d.Sync("a")
		d.DirSync()
		d.Append("a", []byte("c"))
		d.Create("t")
		d.Append("t", []byte("01"))
		d.Rename("t", "a")
		d.Create("b")
		d.Append("b", []byte("x"))
		d.Sync("a")
		d.Append("a", []byte("2"))
		d.Remove("b")
		d.DirSync()
	}
	for down := range 15 {
		for names := range 6 {
			for kept := range 81 {
				d, p := disk.New(100), plainNew(100)
				list := []int{kept % 3, kept / 3 % 3, kept / 9 % 3, kept / 27}
				for _, disker := range []disker{d, p} {
					disker.Arm(down, -1)
					run(disker)
					disker.Crash(names, list...)
				}
				if got, want := told(d), p.told(); got != want {
					t.Fatalf("down at %d, Crash(%d, %v): the disk has %s, want %s", down, names, list, got, want)
				}
			}
		}
	}
}

// P17.1: files come and go in great numbers without filling anything, and one
// that is removed leaves nothing but its place among those that Crash cuts.
func TestComeAndGo(t *testing.T) {
	d := disk.New(100)
	for i := range 2000 {
		name := fmt.Sprint("f", i)
		must(t, d.Create(name), d.Append(name, make([]byte, 50)))
		if i%2 == 0 {
			must(t, d.Sync(name))
		}
		must(t, d.DirSync(), d.Remove(name))
		if i%3 == 0 {
			must(t, d.DirSync())
		}
	}
	must(t, d.Create("a"), d.Append("a", []byte("abc")))
	// 1000 files had bytes that weren't durable.
	leaves(t, d, 9, slices.Concat(make([]int, 1000), []int{2}), "a", "ab")
	leaves(t, d, 9, slices.Concat(make([]int, 999), []int{2}), "a", "")
	leaves(t, d, 9, slices.Concat(make([]int, 1001), []int{2}), "a", "")
	d.Crash(9, make([]int, 1000)...)
	must(t, d.Append("a", []byte("abc")))
	leaves(t, d, 9, []int{2}, "a", "ab")
}

// P17.1: what can't come back isn't kept.
func TestNothingKept(t *testing.T) {
	d := disk.New(1 << 20)
	for i := range 400 {
		name := fmt.Sprint("f", i)
		must(t, d.Create(name), d.Append(name, make([]byte, 1<<20)), d.DirSync())
		switch i % 4 {
		case 0:
			must(t, d.Sync(name), d.Remove(name), d.DirSync())
		case 1:
			must(t, d.Remove(name), d.DirSync())
		case 2:
			must(t, d.Remove(name))
			d.Crash(1)
		default:
			d.Crash(0)
			must(t, d.Remove(name))
		}
	}
	runtime.GC()
	var m runtime.MemStats
	runtime.ReadMemStats(&m)
	if m.HeapAlloc > 50<<20 {
		t.Errorf("%d bytes are kept for a disk with %d bytes", m.HeapAlloc, d.Size())
	}
	runtime.KeepAlive(d)
}

// P17.1: all files that a disk may have, and one change of each.
func TestFull(t *testing.T) {
	next := noise()
	d, p := disk.New(2000), plainNew(2000)
	for i := range 64 {
		for _, disker := range []disker{d, p} {
			disker.Create(fmt.Sprint("file-", i))
			disker.Append(fmt.Sprint("file-", i), make([]byte, i%5))
		}
	}
	for range 500 {
		from, to := fmt.Sprint("file-", upTo(70, next)), fmt.Sprint("file-", upTo(70, next))
		kind, names, crash := upTo(5, next), upTo(80, next), upTo(40, next) == 0
		kept := []int{upTo(3, next), upTo(3, next), upTo(3, next)}
		var errs []api.Errno
		for _, disker := range []disker{d, p} {
			switch kind {
			case 0, 1:
				errs = append(errs, disker.Create(from))
			case 2:
				errs = append(errs, disker.Rename(from, to))
			case 3:
				errs = append(errs, disker.Append(from, make([]byte, 3)))
			default:
				errs = append(errs, disker.Sync(from))
			}
			if crash {
				disker.Crash(names, kept...)
			}
		}
		if got, want := told(d), p.told(); errs[0] != errs[1] || got != want {
			t.Fatalf("%d of %s: %v, want %v; the disk has %s, want %s", kind, from, errs[0], errs[1], got, want)
		}
	}
}
