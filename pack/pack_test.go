package pack_test

import (
	"bytes"
	"encoding/binary"
	"fmt"
	"math"
	"slices"
	"testing"

	"bagatelle/api"
	"bagatelle/pack"
)

// lowest is -2^63, the only api.F below Least.
const lowest api.F = -1 << 63

// noise returns a function that returns numbers, always the same.
func noise() func() uint64 {
	state := uint64(88172645463325252)
	return func() uint64 {
		state ^= state << 13
		state ^= state >> 7
		state ^= state << 17
		return state
	}
}

// some returns n bytes of that noise.
func some(n int, next func() uint64) []byte {
	var b []byte
	for range n {
		b = append(b, byte(next()>>20))
	}
	return b
}

// edges returns numbers at the ends of what n bytes hold, for each n, and others.
func edges() []int {
	l := []int{0, 1, 2, -1, -2, 258, 0x0102030405060708, -0x0102030405060708}
	for bit := range 64 {
		x := 1 << bit
		l = append(l, x-1, x, x+1, -x-1, -x, -x+1)
	}
	return l
}

// eight returns the eight bytes of x.
func eight(x int) []byte {
	return binary.LittleEndian.AppendUint64(nil, uint64(x))
}

// cut returns the number that n bytes keep of x.
func cut(n, x int) int {
	if n == 8 {
		return x
	}
	return x & (1<<(8*n) - 1)
}

// holds reports an error if the writer's bytes aren't these.
func holds(t *testing.T, what string, w *pack.Writer, want string) {
	t.Helper()
	if got := string(w.Bytes()); got != want {
		t.Errorf("%s: %x, want %x", what, got, want)
	}
}

// stands reports an error if the reader hasn't so many bytes left, or has failed.
func stands(t *testing.T, what string, r *pack.Reader, left int) {
	t.Helper()
	if r.Bad() || r.Left() != left || r.Done() != (left == 0) {
		t.Errorf("%s: Bad %v, Left %d, Done %v, want Left %d", what, r.Bad(), r.Left(), r.Done(), left)
	}
}

// failed reports an error if the reader hasn't failed, or still gives anything.
func failed(t *testing.T, what string, r *pack.Reader) {
	t.Helper()
	for range 2 {
		if !r.Bad() || r.Left() != 0 || r.Done() {
			t.Errorf("%s: Bad %v, Left %d, Done %v, want a failed reader", what, r.Bad(), r.Left(), r.Done())
		}
		for n := 1; n <= 8; n++ {
			if got := r.Num(n); got != 0 {
				t.Errorf("%s: then Num(%d) = %d", what, n, got)
			}
		}
		if x, v, n := r.F(), r.V(), r.Count(math.MaxInt); x != 0 || v != (api.V{}) || n != 0 {
			t.Errorf("%s: then F, V, Count = %d, %v, %d", what, x, v, n)
		}
	}
}

func TestNothingWritten(t *testing.T) {
	var w pack.Writer
	holds(t, "the zero value", &w, "")
	holds(t, "a new one", new(pack.Writer), "")
	holds(t, "no numbers", w.F().V(), "")
	holds(t, "none of a slice", w.F([]api.F{}...).V([]api.V{}...), "")
}

func TestWriteNum(t *testing.T) {
	for _, c := range []struct {
		n, x int
		want string
	}{
		{2, 258, "\x02\x01"},
		{1, 258, "\x02"},
		{3, 258, "\x02\x01\x00"},
		{8, 258, "\x02\x01\x00\x00\x00\x00\x00\x00"},
		{1, 0, "\x00"},
		{1, 127, "\x7f"},
		{1, 128, "\x80"},
		{1, 255, "\xff"},
		{1, 256, "\x00"},
		{1, -1, "\xff"},
		{1, -128, "\x80"},
		{1, -129, "\x7f"},
		{2, 65535, "\xff\xff"},
		{2, 65536, "\x00\x00"},
		{2, -2, "\xfe\xff"},
		{4, 0x12345678, "\x78\x56\x34\x12"},
		{4, 0xffffffff, "\xff\xff\xff\xff"},
		{4, 1 << 32, "\x00\x00\x00\x00"},
		{4, -258, "\xfe\xfe\xff\xff"},
		{1, 0x0102030405060708, "\x08"},
		{2, 0x0102030405060708, "\x08\x07"},
		{3, 0x0102030405060708, "\x08\x07\x06"},
		{4, 0x0102030405060708, "\x08\x07\x06\x05"},
		{5, 0x0102030405060708, "\x08\x07\x06\x05\x04"},
		{6, 0x0102030405060708, "\x08\x07\x06\x05\x04\x03"},
		{7, 0x0102030405060708, "\x08\x07\x06\x05\x04\x03\x02"},
		{8, 0x0102030405060708, "\x08\x07\x06\x05\x04\x03\x02\x01"},
		{7, -1, "\xff\xff\xff\xff\xff\xff\xff"},
		{8, -1, "\xff\xff\xff\xff\xff\xff\xff\xff"},
		{8, -2, "\xfe\xff\xff\xff\xff\xff\xff\xff"},
		{8, math.MaxInt, "\xff\xff\xff\xff\xff\xff\xff\x7f"},
		{8, math.MinInt, "\x00\x00\x00\x00\x00\x00\x00\x80"},
		{7, math.MinInt, "\x00\x00\x00\x00\x00\x00\x00"},
	} {
		var w pack.Writer
		holds(t, fmt.Sprintf("Num(%d, %d)", c.n, c.x), w.Num(c.n, c.x), c.want)
		holds(t, fmt.Sprintf("Num(%d, %d) and one more", c.n, c.x), w.Num(1, 0x5a), c.want+"\x5a")
	}
}

func TestWriteF(t *testing.T) {
	for _, c := range []struct {
		x    api.F
		want string
	}{
		{0, "\x00\x00\x00\x00\x00\x00\x00\x00"},
		{1, "\x01\x00\x00\x00\x00\x00\x00\x00"},
		{-1, "\xff\xff\xff\xff\xff\xff\xff\xff"},
		{api.One, "\x00\x00\x00\x00\x01\x00\x00\x00"},
		{-api.One, "\x00\x00\x00\x00\xff\xff\xff\xff"},
		{api.Pi, "\x89\x6a\x3f\x24\x03\x00\x00\x00"},
		{0x0102030405060708, "\x08\x07\x06\x05\x04\x03\x02\x01"},
		{api.Most, "\xff\xff\xff\xff\xff\xff\xff\x7f"},
		{api.Least, "\x01\x00\x00\x00\x00\x00\x00\x80"},
		{lowest, "\x00\x00\x00\x00\x00\x00\x00\x80"},
	} {
		var w, x, y pack.Writer
		holds(t, fmt.Sprintf("F(%d)", c.x), w.F(c.x), c.want)
		holds(t, fmt.Sprintf("F(7, %d, 7)", c.x), x.F(7, c.x, 7), string(eight(7))+c.want+string(eight(7)))
		holds(t, fmt.Sprintf("V of %d", c.x), y.V(api.V{X: c.x, Y: 9}, api.V{X: -9, Y: c.x}), c.want+string(eight(9))+string(eight(-9))+c.want)
	}
}

func TestWriteMany(t *testing.T) {
	var w pack.Writer
	w.Num(1, 1).F(2, 3).V(api.V{X: 4, Y: 5}, api.V{X: 6, Y: 7}).Num(2, 8).V().F().F(9).V(api.V{X: 10, Y: 11})
	want := "\x01"
	for x := 2; x <= 7; x++ {
		want += string(eight(x))
	}
	want += "\x08\x00"
	for x := 9; x <= 11; x++ {
		want += string(eight(x))
	}
	holds(t, "many numbers", &w, want)
}

func TestTheWriterIsReturned(t *testing.T) {
	var w pack.Writer
	for what, got := range map[string]*pack.Writer{
		"Num": w.Num(3, 5), "F": w.F(5), "V": w.V(api.V{X: 5}), "F of nothing": w.F(), "V of nothing": w.V(),
	} {
		if got != &w {
			t.Errorf("%s returns another writer", what)
		}
	}
}

func TestBytesAreNew(t *testing.T) {
	var w pack.Writer
	want := ""
	var kept [][]byte
	for i := range 70 {
		got, again := w.Bytes(), w.Bytes()
		for j := range got {
			got[j] ^= 0xff
		}
		_ = append(got, 0xaa, 0xbb)
		if string(again) != want {
			t.Fatalf("after %d bytes two slices share memory: %x, want %x", i, again, want)
		}
		kept = append(kept, again)
		w.Num(1, i+1)
		want += string([]byte{byte(i + 1)})
		if string(w.Bytes()) != want {
			t.Fatalf("after %d bytes the writer has %x, want %x", i, w.Bytes(), want)
		}
	}
	for i, b := range kept {
		if string(b) != want[:i] {
			t.Errorf("the slice of %d bytes became %x", i, b)
		}
	}
}

func TestWritersAreSeparate(t *testing.T) {
	var a, b pack.Writer
	a.Num(1, 1)
	b.Num(1, 2)
	a.Num(1, 3)
	holds(t, "the first", &a, "\x01\x03")
	holds(t, "the second", &b, "\x02")
}

func TestListsAreNotKept(t *testing.T) {
	numbers, vectors := []api.F{1, 2, 3}, []api.V{{X: 4, Y: 5}, {X: 6, Y: 7}}
	var w pack.Writer
	w.F(numbers[:2]...).V(vectors[:1]...)
	if !slices.Equal(numbers, []api.F{1, 2, 3}) || !slices.Equal(vectors, []api.V{{X: 4, Y: 5}, {X: 6, Y: 7}}) {
		t.Errorf("lists were changed: %v, %v", numbers, vectors)
	}
	numbers[0], vectors[0].X = 8, 9
	holds(t, "after a change of the lists", &w, string(slices.Concat(eight(1), eight(2), eight(4), eight(5))))
}

func TestReadNum(t *testing.T) {
	for _, c := range []struct {
		b       string
		n, want int
	}{
		{"\x02\x01", 2, 258},
		{"\x02\x01", 1, 2},
		{"\x00", 1, 0},
		{"\x7f", 1, 127},
		{"\x80", 1, 128},
		{"\xff", 1, 255},
		{"\xff\xff", 2, 65535},
		{"\x00\x80", 2, 32768},
		{"\xff\xff\xff", 3, 1<<24 - 1},
		{"\xff\xff\xff\xff", 4, 1<<32 - 1},
		{"\x00\x00\x00\x80", 4, 1 << 31},
		{"\xff\xff\xff\xff\xff", 5, 1<<40 - 1},
		{"\xff\xff\xff\xff\xff\xff", 6, 1<<48 - 1},
		{"\xff\xff\xff\xff\xff\xff\xff", 7, 1<<56 - 1},
		{"\x08\x07\x06\x05\x04\x03\x02\x01", 1, 0x08},
		{"\x08\x07\x06\x05\x04\x03\x02\x01", 2, 0x0708},
		{"\x08\x07\x06\x05\x04\x03\x02\x01", 3, 0x060708},
		{"\x08\x07\x06\x05\x04\x03\x02\x01", 4, 0x05060708},
		{"\x08\x07\x06\x05\x04\x03\x02\x01", 5, 0x0405060708},
		{"\x08\x07\x06\x05\x04\x03\x02\x01", 6, 0x030405060708},
		{"\x08\x07\x06\x05\x04\x03\x02\x01", 7, 0x02030405060708},
		{"\x08\x07\x06\x05\x04\x03\x02\x01", 8, 0x0102030405060708},
		{"\xff\xff\xff\xff\xff\xff\xff\xff", 8, -1},
		{"\xff\xff\xff\xff\xff\xff\xff\x7f", 8, math.MaxInt},
		{"\x00\x00\x00\x00\x00\x00\x00\x80", 8, math.MinInt},
		{"\x01\x00\x00\x00\x00\x00\x00\x80", 8, math.MinInt + 1},
	} {
		r := pack.New([]byte(c.b))
		if got := r.Num(c.n); got != c.want {
			t.Errorf("Num(%d) of %x = %d, want %d", c.n, c.b, got, c.want)
		}
		stands(t, fmt.Sprintf("after Num(%d) of %x", c.n, c.b), r, len(c.b)-c.n)
	}
}

func TestReadF(t *testing.T) {
	for _, x := range edges() {
		r := pack.New(append(eight(x), 0x77))
		if got := r.F(); got != api.F(x) {
			t.Errorf("F of %x = %d, want %d", eight(x), got, x)
		}
		stands(t, "after F", r, 1)
	}
}

func TestReadV(t *testing.T) {
	for _, x := range edges() {
		r := pack.New(slices.Concat(eight(x), eight(5), eight(6), eight(x), []byte{0x77}))
		if got, want := r.V(), (api.V{X: api.F(x), Y: 5}); got != want {
			t.Errorf("V = %v, want %v", got, want)
		}
		stands(t, "after V", r, 17)
		if got, want := r.V(), (api.V{X: 6, Y: api.F(x)}); got != want {
			t.Errorf("the second V = %v, want %v", got, want)
		}
		stands(t, "after the second V", r, 1)
	}
}

func TestReadMany(t *testing.T) {
	r := pack.New(slices.Concat([]byte{9, 1, 2}, eight(-3), eight(4), eight(-5), []byte{6, 0, 7, 0, 0, 8}))
	stands(t, "at the beginning", r, 33)
	if x := r.Num(1); x != 9 {
		t.Errorf("Num(1) = %d", x)
	}
	stands(t, "after one byte", r, 32)
	if x := r.Num(2); x != 513 {
		t.Errorf("Num(2) = %d", x)
	}
	if x := r.F(); x != -3 {
		t.Errorf("F = %d", x)
	}
	stands(t, "after F", r, 22)
	if v := r.V(); v != (api.V{X: 4, Y: -5}) {
		t.Errorf("V = %v", v)
	}
	if n := r.Count(6); n != 6 {
		t.Errorf("Count(6) = %d", n)
	}
	stands(t, "after Count", r, 4)
	if x := r.Num(3); x != 7 {
		t.Errorf("Num(3) = %d", x)
	}
	stands(t, "ahead of the last byte", r, 1)
	if x := r.Num(1); x != 8 {
		t.Errorf("the last Num(1) = %d", x)
	}
	stands(t, "at the end", r, 0)
	if x := r.Num(1); x != 0 {
		t.Errorf("Num(1) at the end = %d", x)
	}
	failed(t, "beyond the end", r)
}

func TestNothingToRead(t *testing.T) {
	for _, b := range [][]byte{nil, {}} {
		stands(t, "a reader of nothing", pack.New(b), 0)
		for n := 1; n <= 8; n++ {
			r := pack.New(b)
			if got := r.Num(n); got != 0 {
				t.Errorf("Num(%d) of nothing = %d", n, got)
			}
			failed(t, fmt.Sprintf("Num(%d) of nothing", n), r)
		}
	}
}

// TestTooFewBytes has each length of bytes that is too small for a call.
func TestTooFewBytes(t *testing.T) {
	calls := []struct {
		what string
		size int
		call func(r *pack.Reader) bool
	}{
		{"F", 8, func(r *pack.Reader) bool { return r.F() == 0 }},
		{"V", 16, func(r *pack.Reader) bool { return r.V() == (api.V{}) }},
		{"Count", 2, func(r *pack.Reader) bool { return r.Count(math.MaxInt) == 0 }},
	}
	for n := 1; n <= 8; n++ {
		calls = append(calls, struct {
			what string
			size int
			call func(r *pack.Reader) bool
		}{fmt.Sprintf("Num(%d)", n), n, func(r *pack.Reader) bool { return r.Num(n) == 0 }})
	}
	for _, c := range calls {
		for ahead := range 3 {
			for left := range c.size + 1 {
				r := pack.New(bytes.Repeat([]byte{0xff}, ahead+left))
				for range ahead {
					r.Num(1)
				}
				what := fmt.Sprintf("%s with %d bytes", c.what, left)
				zero := c.call(r)
				if left == c.size {
					stands(t, what, r, 0)
					continue
				}
				if !zero {
					t.Errorf("%s doesn't return 0", what)
				}
				failed(t, what, r)
			}
		}
	}
}

// TestFailedForGood has a failed call that others, which need fewer bytes,
// would still find enough for.
func TestFailedForGood(t *testing.T) {
	r := pack.New([]byte{1, 2, 3, 4, 5, 6, 7})
	if x := r.F(); x != 0 {
		t.Errorf("F of seven bytes = %d", x)
	}
	if x := r.Num(1); x != 0 {
		t.Errorf("Num(1) after the failure = %d", x)
	}
	failed(t, "F of seven bytes", r)
	r = pack.New(slices.Concat(eight(-1), eight(-1)[:7]))
	if v := r.V(); v != (api.V{}) {
		t.Errorf("V of fifteen bytes = %v", v)
	}
	failed(t, "V of fifteen bytes", r)
}

func TestCount(t *testing.T) {
	for _, c := range []struct {
		b          string
		most, want int
		fails      bool
	}{
		{"\x00\x00", 0, 0, false},
		{"\x01\x00", 0, 0, true},
		{"\x01\x00", 1, 1, false},
		{"\x02\x00", 1, 0, true},
		{"\x40\x00", api.MaxOrders, 64, false},
		{"\x41\x00", api.MaxOrders, 0, true},
		{"\x3f\x00", api.MaxOrders, 63, false},
		{"\x00\x04", api.MaxBodies, 1024, false},
		{"\x01\x04", api.MaxBodies, 0, true},
		{"\x00\x01", 255, 0, true},
		{"\x00\x01", 256, 256, false},
		{"\xff\xff", 65535, 65535, false},
		{"\xff\xff", 65534, 0, true},
		{"\xff\xff", math.MaxInt, 65535, false},
		{"\xff\xff", 1 << 32, 65535, false},
		{"\x00\x00", math.MaxInt, 0, false},
		{"\x00\x00", -1, 0, true},
		{"\xff\xff", -1, 0, true},
		{"\x00\x00", math.MinInt, 0, true},
		{"", 0, 0, true},
		{"", 5, 0, true},
		{"\x01", 5, 0, true},
		{"", -1, 0, true},
	} {
		what := fmt.Sprintf("Count(%d) of %x", c.most, c.b)
		r, more := pack.New([]byte(c.b)), pack.New([]byte(c.b+"\x09\x08\x07"))
		if got := r.Count(c.most); got != c.want {
			t.Errorf("%s = %d, want %d", what, got, c.want)
		}
		if c.fails {
			failed(t, what, r)
		} else {
			stands(t, what, r, 0)
		}
		if len(c.b) < 2 {
			continue
		}
		if got := more.Count(c.most); got != c.want {
			t.Errorf("%s and more = %d, want %d", what, got, c.want)
		}
		if c.fails {
			failed(t, what+" and more", more)
		} else {
			stands(t, what+" and more", more, 3)
		}
	}
}

func TestFail(t *testing.T) {
	for read := range 4 {
		r := pack.New([]byte{7, 7, 7})
		for range read {
			r.Num(1)
		}
		stands(t, "ahead of Fail", r, 3-read)
		for range 2 {
			r.Fail()
			failed(t, fmt.Sprintf("Fail after %d bytes", read), r)
		}
	}
}

func TestReadersAreSeparate(t *testing.T) {
	b := []byte{1, 2, 3}
	r, s := pack.New(b), pack.New(b)
	r.Num(1)
	stands(t, "the other one", s, 3)
	r.Fail()
	stands(t, "the other one of a failed one", s, 3)
	if x := s.Num(3); x != 0x030201 {
		t.Errorf("the other one reads %x", x)
	}
}

// TestBytesToReadAreNotKept has bytes that change after New, and memory that
// goes on behind them.
func TestBytesToReadAreNotKept(t *testing.T) {
	memory := []byte{1, 2, 3, 4, 5}
	r := pack.New(memory[:3])
	if x := r.Num(1); x != 1 {
		t.Errorf("the first byte is %d", x)
	}
	memory[1] = 9
	if x := r.Num(1); x != 2 {
		t.Errorf("the second byte is %d", x)
	}
	stands(t, "after two of three bytes", r, 1)
	if x := r.Num(2); x != 0 {
		t.Errorf("Num(2) goes beyond the end: %d", x)
	}
	failed(t, "beyond the end", r)
	if !bytes.Equal(memory, []byte{1, 9, 3, 4, 5}) {
		t.Errorf("the bytes became %v", memory)
	}
}

// TestEachNumberIsReadBack has all numbers of one and two bytes, and for each
// number of bytes those at the ends and many others.
func TestEachNumberIsReadBack(t *testing.T) {
	next := noise()
	l := edges()
	for range 2000 {
		l = append(l, int(next()), int(next()>>(next()%64)))
	}
	for x := range 1 << 16 {
		l = append(l, x)
	}
	for n := 1; n <= 8; n++ {
		var w pack.Writer
		for _, x := range l {
			w.Num(n, x)
		}
		b := w.Bytes()
		if len(b) != n*len(l) {
			t.Fatalf("%d numbers of %d bytes have %d bytes", len(l), n, len(b))
		}
		r := pack.New(b)
		for i, x := range l {
			if !bytes.Equal(b[i*n:(i+1)*n], eight(x)[:n]) {
				t.Fatalf("Num(%d, %d) appends %x", n, x, b[i*n:(i+1)*n])
			}
			if got := r.Num(n); got != cut(n, x) {
				t.Fatalf("Num(%d) of %d = %d, want %d", n, x, got, cut(n, x))
			}
		}
		stands(t, "after all numbers", r, 0)
	}
}

// An item is one call of a writer, and what is read back.
type item struct {
	kind, n, x int
	v          api.V
}

// items returns n calls.
func items(n int, next func() uint64) []item {
	all := edges()
	pick := func() int {
		if next()%2 == 0 {
			return int(next())
		}
		return all[next()%uint64(len(all))]
	}
	var l []item
	for range n {
		it := item{kind: int(next() % 4), n: int(next()%8) + 1, x: pick(), v: api.V{X: api.F(pick()), Y: api.F(pick())}}
		if it.kind == 3 {
			it.x = int(next() % (1 << 16))
		}
		l = append(l, it)
	}
	return l
}

// write performs the call, and returns the bytes that the chapter gives it.
func (it item) write(w *pack.Writer) []byte {
	switch it.kind {
	case 0:
		w.Num(it.n, it.x)
		return eight(it.x)[:it.n]
	case 1:
		w.F(api.F(it.x))
		return eight(it.x)
	case 2:
		w.V(it.v)
		return append(eight(int(it.v.X)), eight(int(it.v.Y))...)
	}
	w.Num(2, it.x)
	return eight(it.x)[:2]
}

// back reports whether the reader reads it back.
func (it item) back(r *pack.Reader) bool {
	switch it.kind {
	case 0:
		return r.Num(it.n) == cut(it.n, it.x)
	case 1:
		return r.F() == api.F(it.x)
	case 2:
		return r.V() == it.v
	}
	return r.Count(it.x) == it.x
}

func TestWhatIsWrittenIsReadBack(t *testing.T) {
	next := noise()
	for range 300 {
		l := items(int(next()%40), next)
		var w pack.Writer
		var want []byte
		var ends []int
		for _, it := range l {
			want = append(want, it.write(&w)...)
			ends = append(ends, len(want))
		}
		b := w.Bytes()
		if !bytes.Equal(b, want) {
			t.Fatalf("%v: %x, want %x", l, b, want)
		}
		r := pack.New(b)
		for i, it := range l {
			if !it.back(r) {
				t.Fatalf("%v isn't read back", it)
			}
			stands(t, fmt.Sprintf("after %v", it), r, len(b)-ends[i])
		}
		stands(t, "at the end", r, 0)
	}
}

// A plain reader keeps to the chapter's words, byte by byte.
type plain struct {
	b   []byte
	at  int
	bad bool
}

func (p *plain) num(n int) int {
	if p.bad || len(p.b)-p.at < n {
		p.bad = true
		return 0
	}
	var x uint64
	for i := n - 1; i >= 0; i-- {
		x = x*256 + uint64(p.b[p.at+i])
	}
	p.at += n
	return int(x)
}

func (p *plain) v() api.V {
	x := p.num(8)
	y := p.num(8)
	if p.bad {
		return api.V{}
	}
	return api.V{X: api.F(x), Y: api.F(y)}
}

func (p *plain) count(most int) int {
	n := p.num(2)
	if n > most {
		p.bad = true
	}
	if p.bad {
		return 0
	}
	return n
}

func (p *plain) left() int {
	if p.bad {
		return 0
	}
	return len(p.b) - p.at
}

// alike performs one call on both, and reports whether they answer alike.
func alike(r *pack.Reader, p *plain, next func() uint64) (string, bool) {
	switch next() % 5 {
	case 0:
		return "F", r.F() == api.F(p.num(8))
	case 1:
		return "V", r.V() == p.v()
	case 2:
		most := int(next()>>40%(1<<17)) - 100
		return fmt.Sprintf("Count(%d)", most), r.Count(most) == p.count(most)
	case 3:
		if next()%16 == 0 {
			r.Fail()
			p.bad = true
			return "Fail", true
		}
	}
	n := int(next()>>30%8) + 1
	return fmt.Sprintf("Num(%d)", n), r.Num(n) == p.num(n)
}

func TestAnyBytesAndCalls(t *testing.T) {
	next := noise()
	for range 3000 {
		b := some(int(next()>>25%60), next)
		given := slices.Clone(b)
		r, p := pack.New(given), &plain{b: b}
		calls := ""
		for range 15 {
			what, ok := alike(r, p, next)
			calls += " " + what
			if !ok {
				t.Fatalf("%x:%s: another answer", b, calls)
			}
			if r.Bad() != p.bad || r.Left() != p.left() || r.Done() != (!p.bad && p.left() == 0) {
				t.Fatalf("%x:%s: Bad %v, Left %d, Done %v, want Bad %v, Left %d", b, calls, r.Bad(), r.Left(), r.Done(), p.bad, p.left())
			}
		}
		if !bytes.Equal(given, b) {
			t.Fatalf("%x:%s: the bytes became %x", b, calls, given)
		}
	}
}

// TestNumbersOfOtherSizes holds what the document leaves open to its P0 only:
// the calls end, and don't panic.
func TestNumbersOfOtherSizes(t *testing.T) {
	for _, n := range []int{0, -1, -8, 9, 16, 64, 1 << 32, math.MaxInt, math.MinInt} {
		var w pack.Writer
		if got := w.Num(n, -5); got != &w {
			t.Errorf("Num(%d) returns another writer", n)
		}
		if size := len(w.Bytes()); size > 8 {
			t.Errorf("Num(%d) appends %d bytes", n, size)
		}
		for size := range 20 {
			r := pack.New(make([]byte, size))
			if got := r.Num(n); got != 0 {
				t.Errorf("Num(%d) of zeros = %d", n, got)
			}
			r.Fail()
			if got := r.Num(n); got != 0 {
				t.Errorf("Num(%d) of a failed reader = %d", n, got)
			}
			failed(t, "a number of another size", r)
		}
	}
}

// TestNobody: the document leaves these open too, but for P0.
func TestNobody(t *testing.T) {
	var w *pack.Writer
	w.Num(8, 1)
	w.F(1, 2)
	w.V(api.V{X: 1}, api.V{Y: 2})
	if b := w.Bytes(); len(b) != 0 {
		t.Errorf("a nil writer has %x", b)
	}
	var r *pack.Reader
	for _, n := range []int{0, 1, 8} {
		if got := r.Num(n); got != 0 {
			t.Errorf("a nil reader reads %d", got)
		}
	}
	r.Fail()
	failed(t, "a nil reader", r)
	stands(t, "a reader that New hasn't made", new(pack.Reader), 0)
}
