package journal_test

import (
	"bytes"
	"encoding/binary"
	"fmt"
	"hash/crc32"
	"slices"
	"strings"
	"testing"

	"bagatelle/api"
	"bagatelle/disk"
	"bagatelle/frame"
	"bagatelle/journal"
)

// most is the greatest number of a segment.
const most = 1 << 62

// noise returns a function that returns numbers, always the same.
func noise() func() uint64 {
	state := uint64(88172645463325252)
	return func() uint64 {
		state ^= state << 13
		state ^= state >> 7
		state ^= state << 17
		return state
	}
}

// upTo returns a number from 0 to n - 1.
func upTo(n int, next func() uint64) int {
	return int(next() >> 20 % uint64(n))
}

// some returns n bytes of that noise.
func some(n int, next func() uint64) []byte {
	var b []byte
	for range n {
		b = append(b, byte(next()>>30))
	}
	return b
}

// plainName is the name of the segment with the number seq.
func plainName(seq int) string {
	return fmt.Sprintf("j%016x", seq)
}

// sealed returns b and its checksum.
func sealed(b []byte) []byte {
	return binary.LittleEndian.AppendUint32(slices.Clone(b), crc32.ChecksumIEEE(b))
}

// plainBytes is the encoding of a record, also of a negative number.
func plainBytes(n int, payload []byte) []byte {
	head := binary.LittleEndian.AppendUint32(nil, uint32(len(payload)))
	head = binary.LittleEndian.AppendUint64(head, uint64(n))
	return append(sealed(head), sealed(payload)...)
}

// plainBegin is the chapter's Begin.
func plainBegin(d *disk.Disk, seq int) api.Errno {
	err := d.Create(plainName(seq))
	if err == api.OK {
		err = d.DirSync()
	}
	return err
}

// plainWrite is the chapter's Write.
func plainWrite(d *disk.Disk, seq, n int, payload []byte) api.Errno {
	err := d.Append(plainName(seq), plainBytes(n, payload))
	if err == api.OK {
		err = d.Sync(plainName(seq))
	}
	return err
}

// plainScan is the chapter's Scan: the records are what the bytes begin with
// the encoding of, as long as there is one.
func plainScan(d *disk.Disk, seq int) ([]frame.Record, bool, api.Errno) {
	b, err := d.Read(plainName(seq))
	if err != api.OK {
		return nil, false, err
	}
	var l []frame.Record
	for len(b) >= 20 {
		size, n := int(binary.LittleEndian.Uint32(b)), int(binary.LittleEndian.Uint64(b[4:]))
		if size > 16384 || size > len(b)-20 || n < 0 {
			break
		}
		payload := b[16 : 16+size]
		if !bytes.HasPrefix(b, plainBytes(n, payload)) {
			break
		}
		l = append(l, frame.Record{Num: n, Payload: payload})
		b = b[20+size:]
	}
	return l, len(b) == 0, api.OK
}

// plainRemove is the chapter's Remove.
func plainRemove(d *disk.Disk, segments ...int) api.Errno {
	for _, seq := range segments {
		if err := d.Remove(plainName(seq)); err != api.OK {
			return err
		}
	}
	if len(segments) > 0 {
		return d.DirSync()
	}
	return api.OK
}

// plainFollow is the chapter's Follow: it sorts out those up to from first, and
// then holds each record against the one ahead of it.
func plainFollow(from int, segments ...[]frame.Record) ([]frame.Record, bool) {
	rest := []frame.Record{{Num: from}}
	for _, segment := range segments {
		for _, r := range segment {
			if r.Num > from {
				rest = append(rest, r)
			}
		}
	}
	var l []frame.Record
	for i, r := range rest[1:] {
		previous := rest[i]
		switch {
		case previous.Num < r.Num && r.Num-1 == previous.Num:
			l = append(l, r)
		case i == 0 || r.Num != previous.Num || !bytes.Equal(r.Payload, previous.Payload):
			return l, false
		}
	}
	return l, true
}

// same reports whether both have the same number and payload.
func same(a, b frame.Record) bool {
	return a.Num == b.Num && bytes.Equal(a.Payload, b.Payload)
}

// show tells records by their numbers and payloads.
func show(l []frame.Record) string {
	var text []string
	for _, r := range l {
		text = append(text, fmt.Sprintf("%d:%x", r.Num, r.Payload))
	}
	return "[" + strings.Join(text, " ") + "]"
}

// told returns what a disk has, as a text; it is done to a copy.
func told(d *disk.Disk) string {
	c := d.Copy()
	c.Arm(-1, -1)
	if c.Down() {
		return fmt.Sprint("down, with ", c.Size(), " bytes")
	}
	l, _ := c.List()
	text := []string{fmt.Sprint(c.Size())}
	for _, name := range l {
		b, _ := c.Read(name)
		text = append(text, fmt.Sprintf("%s %x", name, b))
	}
	return strings.Join(text, "; ")
}

// after returns what a disk has after that crash; it is done to a copy.
func after(d *disk.Disk, names int, kept ...int) string {
	c := d.Copy()
	c.Crash(names, kept...)
	return told(c)
}

// state returns all that is to be known of a disk: its operations so far, what
// it has, and what it would have after some crashes.
func state(d *disk.Disk) string {
	return strings.Join([]string{
		fmt.Sprint(d.Ops()), told(d), after(d, 0), after(d, 1), after(d, 2), after(d, 3, 5, 25), after(d, 100, 1000, 1000, 1000, 1000),
	}, "\n")
}

// must stops the test if something that it needs returns an error.
func must(t *testing.T, errs ...api.Errno) {
	t.Helper()
	for i, err := range errs {
		if err != api.OK {
			t.Fatalf("step %d: %v", i, err)
		}
	}
}

// is reports an error if a call returned another error than that.
func is(t *testing.T, what string, got, want api.Errno) {
	t.Helper()
	if got != want {
		t.Errorf("%s: %v, want %v", what, got, want)
	}
}

// used reports an error if the disk has had another number of operations.
func used(t *testing.T, what string, d *disk.Disk, want int) {
	t.Helper()
	if d.Ops() != want {
		t.Errorf("%s: %d operations, want %d", what, d.Ops(), want)
	}
}

// holding returns a disk with room for a million bytes, and with the segments
// that have these bytes, from number 1 on, all durable.
func holding(t *testing.T, segments ...[]byte) *disk.Disk {
	t.Helper()
	d := disk.New(1000000)
	for i, b := range segments {
		name := plainName(i + 1)
		must(t, d.Create(name), d.Append(name, b), d.Sync(name))
	}
	must(t, d.DirSync())
	return d
}

// spare returns b in memory that goes on behind it, and a function that
// reports whether all of that memory is as it was.
func spare(b []byte) ([]byte, func() bool) {
	memory := append(slices.Clone(b), bytes.Repeat([]byte{0xa5}, 40)...)
	before := slices.Clone(memory)
	return memory[:len(b)], func() bool { return bytes.Equal(memory, before) }
}

// scribble writes to an answer, and appends to it.
func scribble(answer []byte) {
	for i := range answer {
		answer[i] ^= 0xff
	}
	_ = append(answer, 1, 2, 3, 4)
}

// A call is one to the journal, in the chapter's words and as it is.
type call struct {
	what        string
	plain, real func(d *disk.Disk) string
}

func begin(seq int) call {
	return call{
		fmt.Sprintf("Begin(%d)", seq),
		func(d *disk.Disk) string { return fmt.Sprint(plainBegin(d, seq)) },
		func(d *disk.Disk) string { return fmt.Sprint(journal.Begin(d, seq)) },
	}
}

func write(seq, n int, payload []byte) call {
	return call{
		fmt.Sprintf("Write(%d, %d, %d bytes)", seq, n, len(payload)),
		func(d *disk.Disk) string { return fmt.Sprint(plainWrite(d, seq, n, payload)) },
		func(d *disk.Disk) string { return fmt.Sprint(journal.Write(d, seq, n, payload)) },
	}
}

func scan(seq int) call {
	tell := func(l []frame.Record, whole bool, err api.Errno) string {
		return fmt.Sprint(show(l), whole, err)
	}
	return call{
		fmt.Sprintf("Scan(%d)", seq),
		func(d *disk.Disk) string { return tell(plainScan(d, seq)) },
		func(d *disk.Disk) string { return tell(journal.Scan(d, seq)) },
	}
}

func remove(segments ...int) call {
	return call{
		fmt.Sprintf("Remove(%d)", segments),
		func(d *disk.Disk) string { return fmt.Sprint(plainRemove(d, segments...)) },
		func(d *disk.Disk) string { return fmt.Sprint(journal.Remove(d, segments...)) },
	}
}

// alike does a call in both ways, to a disk and to a copy of it, and reports an
// error unless they return the same and leave the disks in the same state.
func alike(t *testing.T, what string, d *disk.Disk, c call) {
	t.Helper()
	p := d.Copy()
	if got, want := c.real(d), c.plain(p); got != want {
		t.Fatalf("%s: %s returns %.200s, want %.200s", what, c.what, got, want)
	}
	if got, want := state(d), state(p); got != want {
		t.Fatalf("%s: after %s the disk has\n%.2000s\nwant\n%.2000s", what, c.what, got, want)
	}
}
