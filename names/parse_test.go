package names_test

import (
	"regexp"
	"strconv"
	"strings"
	"testing"

	"bagatelle/names"
)

// pattern is how a name looks; its number may still be too great.
var pattern = regexp.MustCompile(`\A[cj][0-9a-f]{16}\z`)

// plainParse is the chapter's Parse, by the library.
func plainParse(s string) (byte, int, bool) {
	if !pattern.MatchString(s) {
		return 0, 0, false
	}
	n, err := strconv.ParseUint(s[1:], 16, 64)
	if err != nil || n > most {
		return 0, 0, false
	}
	return s[0], int(n), true
}

// holdParse holds Parse of s against the plain one.
func holdParse(t *testing.T, s string) {
	t.Helper()
	kind, n, ok := names.Parse(s)
	wantKind, want, wantOk := plainParse(s)
	if kind != wantKind || n != want || ok != wantOk {
		t.Fatalf("Parse(%q) = %q, %d, %t, want %q, %d, %t", s, kind, n, ok, wantKind, want, wantOk)
	}
}

func TestParse(t *testing.T) {
	for _, c := range numerals {
		for _, want := range []byte("cj") {
			s := string(want) + c.digits
			if kind, n, ok := names.Parse(s); kind != want || n != c.number || !ok {
				t.Errorf("Parse(%q) = %q, %d, %t, want %q, %d, true", s, kind, n, ok, want, c.number)
			}
		}
	}
}

func TestParseOfOthers(t *testing.T) {
	for _, s := range []string{
		"", "t", "c", "j", "c0", "j1", "a", names.Temp + "0000000000000000",
		// One digit too few, one too many, none of the letters, or two of them.
		"c000000000000001", "j000000000000001", "c00000000000000001", "j00000000000000001",
		"0000000000000001", "00000000000000001", "cj000000000000001", "cj0000000000000001", "c0000000000000001j0000000000000001",
		// Other letters before the number.
		"C0000000000000001", "J0000000000000001", "b0000000000000001", "d0000000000000001", "i0000000000000001",
		"k0000000000000001", "t0000000000000001", " 0000000000000001", "\x000000000000000001", "\xff0000000000000001",
		// No digits: capitals, and the neighbors of digits.
		"c00000000000000FF", "j000000000000000A", "c000000000000000F", "c000000000000000g", "c000000000000000/",
		"c000000000000000:", "c000000000000000`", "c000000000000000@", "j000000000000000 ", "j 000000000000000",
		"c000000000000000\n", "c000000000000000\x00", "c000000000000000\x01", "j000000000000000\xff", "cg000000000000000",
		// What others take for numbers.
		"c+000000000000001", "c-000000000000001", "c0x00000000000001", "j0000_0000_0000_1", "j000000000000001h",
		"c00000000000000.0", "c0000000000000e+1", "c\u0660\u0660\u0660\u0660\u0660\u0660\u0660\u0661", "j0000000000000\uff11",
		// More around a name.
		" c0000000000000001", "c0000000000000001 ", "c0000000000000001\n", "./c0000000000000001", "c0000000000000001.t",
		// Numbers that are too great: 2^62 + 1, 2^62 + 2^60, 2^63 - 1, 2^63, 2^64 - 1.
		"c4000000000000001", "j4000000000000001", "c5000000000000000", "c7fffffffffffffff", "j7fffffffffffffff",
		"c8000000000000000", "j8000000000000000", "c8000000000000001", "cc000000000000000", "cffffffffffffffff",
		"jffffffffffffffff", "c14000000000000000",
		strings.Repeat("c", 17), strings.Repeat("0", 17), strings.Repeat("c0000000000000001", 10000),
	} {
		if kind, n, ok := names.Parse(s); kind != 0 || n != 0 || ok {
			t.Errorf("Parse(%.40q) = %q, %d, %t, want 0, 0, false", s, kind, n, ok)
		}
	}
}

func TestParseOfMany(t *testing.T) {
	for _, n := range numbers() {
		if kind, got, ok := names.Parse(names.Check(n)); kind != 'c' || got != n || !ok {
			t.Fatalf("Parse(Check(%d)) = %q, %d, %t", n, kind, got, ok)
		}
		if kind, got, ok := names.Parse(names.Segment(n)); kind != 'j' || got != n || !ok {
			t.Fatalf("Parse(Segment(%d)) = %q, %d, %t", n, kind, got, ok)
		}
	}
}

// Each name with each byte in each place, with one byte less, and with one more.
func TestParseOfNeighbors(t *testing.T) {
	for _, c := range numerals {
		for _, kind := range []string{"c", "j"} {
			name := kind + c.digits
			for i := range len(name) {
				holdParse(t, name[:i]+name[i+1:])
				for b := range 256 {
					holdParse(t, name[:i]+string([]byte{byte(b)})+name[i+1:])
					holdParse(t, name[:i]+string([]byte{byte(b)})+name[i:])
				}
			}
		}
	}
}

// A text is a name exactly if one of the calls returns it for what Parse says.
func TestParseOfNoise(t *testing.T) {
	next := noise()
	const letters = "cj0123456789abcdefgCJAFt-"
	found := 0
	for range 200000 {
		b := []byte{"cj"[next()%2], "01234"[next()%5]}
		for size := 17 - next()%50/49; len(b) < int(size); {
			b = append(b, letters[2+next()%16])
		}
		if next()%4 == 0 {
			b[next()%uint64(len(b))] = letters[next()%uint64(len(letters))]
		}
		s := string(b)
		holdParse(t, s)
		kind, n, ok := names.Parse(s)
		if ok != (kind == 'c' && names.Check(n) == s || kind == 'j' && names.Segment(n) == s) {
			t.Fatalf("Parse(%q) = %q, %d, %t, but the names are %s and %s", s, kind, n, ok, names.Check(n), names.Segment(n))
		}
		if ok {
			found++
		}
	}
	if found < 50000 || found > 180000 {
		t.Errorf("%d names: the test says little", found)
	}
}
