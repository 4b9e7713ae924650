package frame_test

import (
	"bytes"
	"encoding/binary"
	"fmt"
	"math"
	"slices"
	"testing"

	"bagatelle/api"
	"bagatelle/crc"
	"bagatelle/frame"
)

// masks returns masks of each number of consecutive bits, at each place, the
// polynomial's own bits, and others.
func masks() []uint32 {
	next := noise()
	l := []uint32{0x04c11db7, 0xedb88320, 0x80000001, 0xaaaaaaaa, 0x55555555}
	for from := range 32 {
		for to := from; to < 32; to++ {
			l = append(l, math.MaxUint32<<from&(math.MaxUint32>>(31-to)))
		}
	}
	for range 30 {
		l = append(l, uint32(next()>>32), uint32(next()>>32&next()>>32&next()>>32)|1, uint32(next()>>32)|1<<31)
	}
	return l
}

// followers returns bytes that may follow a record.
func followers(b []byte) [][]byte {
	return [][]byte{
		nil, make([]byte, 50), bytes.Repeat([]byte{255}, 50), some(50, noise()),
		b, frame.Bytes(1, nil), frame.Bytes(2, []byte("another record")),
	}
}

// refused reports an error if there is a record at the beginning of b.
func refused(t *testing.T, what string, b []byte) {
	t.Helper()
	for _, most := range []int{100, api.MaxBatch, math.MaxInt} {
		if r, n, ok := frame.Next(b, most); ok || n != 0 || r.Num != 0 || len(r.Payload) != 0 {
			t.Fatalf("%s: Next(%x, %d) = %v, %d, %v, want nothing, 0 and false", what, b, most, r, n, ok)
		}
	}
	if l, n := frame.All(b, math.MaxInt); len(l) != 0 || n != 0 {
		t.Fatalf("%s: All(%x) = %v, %d, want nothing and 0", what, b, l, n)
	}
	if r, ok := frame.One(b, math.MaxInt); ok || r.Num != 0 || len(r.Payload) != 0 {
		t.Fatalf("%s: One(%x) = %v, %v, want nothing and false", what, b, r, ok)
	}
}

// TestBentRecords has each mask at each place of some records, with each of the
// followers.
func TestBentRecords(t *testing.T) {
	next := noise()
	for _, b := range [][]byte{
		frame.Bytes(0, nil), frame.Bytes(math.MaxInt, []byte{0}), frame.Bytes(1, make([]byte, 5)),
		frame.Bytes(int(next()>>1), some(4, next)), frame.Bytes(3, frame.Bytes(1, nil)),
	} {
		for at := -31; at < 8*len(b); at++ {
			for _, mask := range masks() {
				bent := crc.Bend(b, at, mask)
				if bytes.Equal(bent, b) {
					continue
				}
				what := fmt.Sprintf("%x bent by %08X at %d", b, mask, at)
				for _, behind := range followers(b) {
					refused(t, what, slices.Concat(bent, behind))
				}
			}
		}
	}
}

// TestBentAndLong has the longest record of a journal, bent at its ends and at
// other places.
func TestBentAndLong(t *testing.T) {
	next := noise()
	b := frame.Bytes(12345, some(api.MaxBatch, next))
	last := 8*len(b) - 1
	places := []int{0, 96, 127, 128, last - 31, last - 32, last}
	for range 20 {
		places = append(places, upTo(last, next))
	}
	for _, at := range places {
		for _, mask := range []uint32{1, math.MaxUint32, 0xedb88320, uint32(next()) | 1} {
			bent := crc.Bend(b, at, mask)
			if bytes.Equal(bent, b) {
				continue
			}
			what := fmt.Sprintf("%08X at %d", mask, at)
			if r, n, ok := frame.Next(append(bent, b...), math.MaxInt); ok || n != 0 || r.Num != 0 || len(r.Payload) != 0 {
				t.Fatalf("%s: Next = %d, %d bytes, %d, %v, want nothing, 0 and false", what, r.Num, len(r.Payload), n, ok)
			}
		}
	}
}

// tells returns the length of the payload that a head tells of.
func tells(head []byte) int {
	return int(binary.LittleEndian.Uint32(head))
}

// fits reports whether the payload that the head tells of is there, with its
// checksum.
func fits(b []byte) bool {
	end := 16 + tells(b)
	return len(b) >= end+4 && bytes.HasPrefix(b[end:], sum(b[16:end]))
}

// filled returns a bent record followed by what makes a payload that goes on
// beyond its end one that fits. It can't do so for a shorter one.
func filled(bent []byte) []byte {
	end := 16 + tells(bent)
	if end < len(bent) {
		return bent
	}
	payload := append(bent[16:], make([]byte, end-len(bent))...)
	return slices.Concat(bent[:16], payload, sum(payload))
}

// TestBentHead has heads that tell of another length, or number, ahead of
// payloads of just that length, with a checksum that fits them: whatever
// follows a bent record, its head alone gives it away.
func TestBentHead(t *testing.T) {
	// Each four bytes are the checksum of those ahead of them, so that shorter
	// payloads fit too.
	var payload []byte
	for range 5 {
		payload = append(payload, sum(payload)...)
	}
	b := frame.Bytes(5, payload)
	shorter, longer, number := 0, 0, 0
	for at := -31; at < 128; at++ {
		for _, mask := range masks() {
			bent := crc.Bend(b, at, mask)
			if bytes.Equal(bent[:16], b[:16]) || tells(bent) > 1000 {
				continue
			}
			bent = filled(bent)
			refused(t, fmt.Sprintf("%x bent by %08X at %d", b, mask, at), bent)
			switch size := tells(bent); {
			case !fits(bent):
			case size < len(payload):
				shorter++
			case size > len(payload):
				longer++
			default:
				number++
			}
		}
	}
	if shorter < 10 || longer < 100 || number < 1000 {
		t.Errorf("too few bent heads are ahead of a payload that fits: shorter %d, longer %d, with another number %d", shorter, longer, number)
	}
}

// TestAllEndsAtBent has each place of three records bent: All returns those
// ahead of the first one of which a bit is inverted.
func TestAllEndsAtBent(t *testing.T) {
	one, two, three := frame.Bytes(1, []byte("ab")), frame.Bytes(2, []byte("cd")), frame.Bytes(3, nil)
	all := slices.Concat(one, two, three)
	for at := range 8 * len(all) {
		for _, mask := range []uint32{1, 3, math.MaxUint32, 0x80000001} {
			l, n := frame.All(crc.Bend(all, at, mask), 100)
			want := 0
			for _, b := range [][]byte{one, two, three} {
				if at/8 < want+len(b) {
					break
				}
				want += len(b)
			}
			if n != want || len(l) != want/22 {
				t.Fatalf("bent by %08X at %d: %d records of %d bytes, want %d bytes", mask, at, len(l), n, want)
			}
		}
	}
}
