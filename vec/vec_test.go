package vec_test

import (
	"math/big"
	"testing"

	"bagatelle/api"
	"bagatelle/fix"
	"bagatelle/turn"
	"bagatelle/vec"
)

const (
	// lowest is -2^63, which counts as Least.
	lowest  api.F = -1 << 63
	half          = api.One / 2
	quarter       = api.One / 4
	// longest is the root of Most, the greatest length.
	longest api.F = 199032864766430
)

func whole(x, y int) api.V {
	return api.V{X: fix.Of(x), Y: fix.Of(y)}
}

// counted returns a with Least for -2^63, as that is the same number.
func counted(a api.V) api.V {
	return api.V{X: max(a.X, api.Least), Y: max(a.Y, api.Least)}
}

// The calls of layer 1, exactly computed and then saturated: the chapter's
// words are held against these, not against package fix.

func exact(a api.F) *big.Int {
	return big.NewInt(int64(max(a, api.Least)))
}

func saturated(n *big.Int) api.F {
	if n.Cmp(exact(api.Most)) > 0 {
		return api.Most
	}
	if n.Cmp(exact(api.Least)) < 0 {
		return api.Least
	}
	return api.F(n.Int64())
}

func sum(a, b api.F) api.F {
	return saturated(new(big.Int).Add(exact(a), exact(b)))
}

func less(a, b api.F) api.F {
	return saturated(new(big.Int).Sub(exact(a), exact(b)))
}

func times(a, b api.F) api.F {
	product := new(big.Int).Mul(exact(a), exact(b))
	return saturated(product.Quo(product, exact(api.One)))
}

func by(a, b api.F) api.F {
	scaled := new(big.Int).Mul(exact(a), exact(api.One))
	return saturated(scaled.Quo(scaled, exact(b)))
}

func root(a api.F) api.F {
	scaled := new(big.Int).Mul(exact(a), exact(api.One))
	return saturated(scaled.Sqrt(scaled))
}

func limited(a, low, high api.F) api.F {
	return min(max(a, low), high)
}

func dot(a, b api.V) api.F {
	return sum(times(a.X, b.X), times(a.Y, b.Y))
}

// numbers returns the ends of the range, numbers at which products and lengths
// begin to vanish or to saturate, and some between, of both signs.
func numbers() []api.F {
	l := []api.F{0, lowest}
	for _, a := range []api.F{1, 65535, 65536, 3037000500, api.One - 1, api.One, api.One + 1, 3 * api.One, api.Pi, longest, longest + 1, api.Far, api.Most - 1, api.Most} {
		l = append(l, a, -a)
	}
	return l
}

// vectors returns all vectors of those numbers, and many of all sizes.
func vectors() []api.V {
	var l []api.V
	for _, x := range numbers() {
		for _, y := range numbers() {
			l = append(l, api.V{X: x, Y: y})
		}
	}
	state := uint64(88172645463325252)
	next := func() api.F {
		state ^= state << 13
		state ^= state >> 7
		state ^= state << 17
		return api.F(state) >> (state % 61)
	}
	for range 20000 {
		l = append(l, api.V{X: next(), Y: next()})
	}
	return l
}

// pairs calls check for vectors together with others from near and far in the
// list, and with themselves.
func pairs(check func(a, b api.V)) {
	l := vectors()
	for i, a := range l {
		for _, on := range []int{0, 1, 29, 30, 31, 450, 777, 901} {
			check(a, l[(i+on)%len(l)])
		}
	}
}

// rotations returns all 1024 of the table, and some that aren't there.
func rotations() []turn.Rot {
	l := []turn.Rot{
		{},
		{C: 3, S: -5},
		{C: api.Most, S: api.Most},
		{C: api.Most, S: api.Least},
		{C: api.Least, S: api.Most},
		{C: api.Least, S: api.Least},
		{C: lowest, S: lowest},
		{C: 0, S: lowest},
		{C: lowest, S: 0},
	}
	for step := range api.F(1024) {
		l = append(l, turn.Of(step*(api.One/1024)))
	}
	return l
}

func rotated(check func(r turn.Rot, a api.V)) {
	l := vectors()
	for i, r := range rotations() {
		for on := range 40 {
			check(r, l[(i*7+on*541)%len(l)])
		}
	}
}

type pair struct{ a, b, want api.V }

func checkPairs(t *testing.T, name string, call func(a, b api.V) api.V, l []pair) {
	t.Helper()
	for _, c := range l {
		if got := call(c.a, c.b); got != c.want {
			t.Errorf("%s(%v, %v) = %v, want %v", name, c.a, c.b, got, c.want)
		}
	}
}

func TestAdd(t *testing.T) {
	checkPairs(t, "Add", vec.Add, []pair{
		{api.V{}, api.V{}, api.V{}},
		{whole(1, 2), whole(30, 40), whole(31, 42)},
		{whole(1, -2), whole(-3, 5), whole(-2, 3)},
		{api.V{X: 1}, api.V{Y: 1}, api.V{X: 1, Y: 1}},
		{api.V{X: api.Most, Y: api.Least}, api.V{X: 1, Y: -1}, api.V{X: api.Most, Y: api.Least}},
		{api.V{X: api.Most, Y: api.Least}, api.V{X: -1, Y: 1}, api.V{X: api.Most - 1, Y: api.Least + 1}},
		{api.V{X: api.Most, Y: api.Most}, api.V{X: api.Least, Y: api.Most}, api.V{X: 0, Y: api.Most}},
		{api.V{X: lowest, Y: lowest}, api.V{X: 0, Y: api.Most}, api.V{X: api.Least, Y: 0}},
		{api.V{X: 0, Y: 5}, api.V{X: lowest, Y: lowest}, api.V{X: api.Least, Y: api.Least + 5}},
	})
	pairs(func(a, b api.V) {
		want := api.V{X: sum(a.X, b.X), Y: sum(a.Y, b.Y)}
		if got := vec.Add(a, b); got != want {
			t.Fatalf("Add(%v, %v) = %v, want %v", a, b, got, want)
		}
	})
}

func TestSub(t *testing.T) {
	checkPairs(t, "Sub", vec.Sub, []pair{
		{api.V{}, api.V{}, api.V{}},
		{whole(31, 42), whole(30, 40), whole(1, 2)},
		{whole(1, -2), whole(-3, 5), whole(4, -7)},
		{api.V{}, api.V{X: 1, Y: -1}, api.V{X: -1, Y: 1}},
		{api.V{X: api.Most, Y: api.Least}, api.V{X: -1, Y: 1}, api.V{X: api.Most, Y: api.Least}},
		{api.V{X: api.Most, Y: api.Least}, api.V{X: 1, Y: -1}, api.V{X: api.Most - 1, Y: api.Least + 1}},
		{api.V{X: api.Most, Y: api.Most}, api.V{X: api.Least, Y: api.Most}, api.V{X: api.Most, Y: 0}},
		{api.V{}, api.V{X: lowest, Y: lowest}, api.V{X: api.Most, Y: api.Most}},
		{api.V{X: lowest, Y: lowest}, api.V{X: lowest, Y: -7}, api.V{X: 0, Y: api.Least + 7}},
	})
	pairs(func(a, b api.V) {
		want := api.V{X: less(a.X, b.X), Y: less(a.Y, b.Y)}
		if got := vec.Sub(a, b); got != want {
			t.Fatalf("Sub(%v, %v) = %v, want %v", a, b, got, want)
		}
	})
}

func TestNeg(t *testing.T) {
	for _, c := range []struct{ a, want api.V }{
		{api.V{}, api.V{}},
		{whole(3, -4), whole(-3, 4)},
		{api.V{X: 1, Y: 2}, api.V{X: -1, Y: -2}},
		{api.V{X: api.Most, Y: api.Least}, api.V{X: api.Least, Y: api.Most}},
		{api.V{X: lowest, Y: lowest}, api.V{X: api.Most, Y: api.Most}},
	} {
		if got := vec.Neg(c.a); got != c.want {
			t.Errorf("Neg(%v) = %v, want %v", c.a, got, c.want)
		}
	}
	for _, a := range vectors() {
		want := api.V{X: less(0, a.X), Y: less(0, a.Y)}
		if got := vec.Neg(a); got != want {
			t.Fatalf("Neg(%v) = %v, want %v", a, got, want)
		}
	}
}

func TestScale(t *testing.T) {
	for _, c := range []struct {
		a    api.V
		s    api.F
		want api.V
	}{
		{whole(3, -4), 0, api.V{}},
		{whole(3, -4), api.One, whole(3, -4)},
		{whole(3, -4), -api.One, whole(-3, 4)},
		{whole(3, -4), fix.Of(5), whole(15, -20)},
		{whole(3, -4), half, api.V{X: 3 * half, Y: -2 * api.One}},
		{api.V{X: 3, Y: -3}, half, api.V{X: 1, Y: -1}},
		{api.V{X: 1, Y: -1}, half, api.V{}},
		{api.V{X: api.Most, Y: api.Least}, 2 * api.One, api.V{X: api.Most, Y: api.Least}},
		{api.V{X: api.Most, Y: api.Least}, api.Least, api.V{X: api.Least, Y: api.Most}},
		{api.V{X: lowest, Y: lowest}, api.One, api.V{X: api.Least, Y: api.Least}},
		{api.V{X: lowest, Y: 1}, -api.One, api.V{X: api.Most, Y: -1}},
		{whole(1, -1), lowest, api.V{X: api.Least, Y: api.Most}},
	} {
		if got := vec.Scale(c.a, c.s); got != c.want {
			t.Errorf("Scale(%v, %d) = %v, want %v", c.a, c.s, got, c.want)
		}
	}
	pairs(func(a, b api.V) {
		want := api.V{X: times(a.X, b.X), Y: times(a.Y, b.X)}
		if got := vec.Scale(a, b.X); got != want {
			t.Fatalf("Scale(%v, %d) = %v, want %v", a, b.X, got, want)
		}
	})
}

func TestDot(t *testing.T) {
	for _, c := range []struct {
		a, b api.V
		want api.F
	}{
		{api.V{}, whole(5, 7), 0},
		{whole(3, 4), whole(3, 4), fix.Of(25)},
		{whole(3, 4), whole(-4, 3), 0},
		{whole(2, 3), whole(5, -7), fix.Of(-11)},
		{whole(1, 0), whole(0, 1), 0},
		// Each product is rounded before they are added.
		{api.V{X: 1, Y: 1}, api.V{X: half, Y: half}, 0},
		{api.V{X: 3, Y: -1}, api.V{X: half, Y: half}, 1},
		{api.V{X: -3, Y: 1}, api.V{X: half, Y: half}, -1},
		// And saturated.
		{api.V{X: api.Most, Y: api.Most}, whole(2, -1), 0},
		{api.V{X: api.Most, Y: api.Most}, whole(5, 5), api.Most},
		{api.V{X: api.Most, Y: api.Least}, whole(-1, 1), api.Least},
		{api.V{X: lowest, Y: 0}, whole(1, 1), api.Least},
		{api.V{X: lowest, Y: 7}, whole(-1, -1), api.Most - 7},
		{whole(-1, -1), api.V{X: lowest, Y: 7}, api.Most - 7},
		{api.V{X: lowest, Y: lowest}, whole(1, -1), 0},
	} {
		if got := vec.Dot(c.a, c.b); got != c.want {
			t.Errorf("Dot(%v, %v) = %d, want %d", c.a, c.b, got, c.want)
		}
	}
	pairs(func(a, b api.V) {
		if got, want := vec.Dot(a, b), dot(a, b); got != want {
			t.Fatalf("Dot(%v, %v) = %d, want %d", a, b, got, want)
		}
	})
}

func TestCross(t *testing.T) {
	for _, c := range []struct {
		a, b api.V
		want api.F
	}{
		{api.V{}, whole(5, 7), 0},
		{whole(1, 0), whole(0, 1), api.One},
		{whole(0, 1), whole(1, 0), -api.One},
		{whole(3, 4), whole(3, 4), 0},
		{whole(3, 4), whole(-4, 3), fix.Of(25)},
		{whole(2, 3), whole(5, -7), fix.Of(-29)},
		// Each product is rounded before one is subtracted.
		{api.V{X: 1, Y: 1}, api.V{X: -half, Y: half}, 0},
		{api.V{X: 3, Y: 1}, api.V{X: half, Y: half}, 1},
		{api.V{X: 1, Y: 3}, api.V{X: half, Y: half}, -1},
		// And saturated.
		{api.V{X: api.Most, Y: api.Most}, whole(1, 2), 0},
		{api.V{X: api.Most, Y: api.Most}, whole(-1, 1), api.Most},
		{api.V{X: api.Most, Y: api.Most}, whole(1, -1), api.Least},
		{api.V{X: lowest, Y: 0}, whole(1, 1), api.Least},
		{api.V{X: 0, Y: lowest}, whole(1, 1), api.Most},
		{api.V{X: lowest, Y: 7}, whole(1, -1), api.Most - 7},
		{whole(1, -1), api.V{X: lowest, Y: 7}, api.Least + 7},
		{api.V{X: lowest, Y: lowest}, whole(1, 1), 0},
	} {
		if got := vec.Cross(c.a, c.b); got != c.want {
			t.Errorf("Cross(%v, %v) = %d, want %d", c.a, c.b, got, c.want)
		}
	}
	pairs(func(a, b api.V) {
		if got, want := vec.Cross(a, b), less(times(a.X, b.Y), times(a.Y, b.X)); got != want {
			t.Fatalf("Cross(%v, %v) = %d, want %d", a, b, got, want)
		}
	})
}

func TestLeft(t *testing.T) {
	for _, c := range []struct{ a, want api.V }{
		{api.V{}, api.V{}},
		{whole(1, 0), whole(0, 1)},
		{whole(0, 1), whole(-1, 0)},
		{whole(-1, 0), whole(0, -1)},
		{whole(0, -1), whole(1, 0)},
		{whole(3, 4), whole(-4, 3)},
		{api.V{X: api.Most, Y: api.Most}, api.V{X: api.Least, Y: api.Most}},
		{api.V{X: api.Least, Y: api.Least}, api.V{X: api.Most, Y: api.Least}},
		{api.V{X: 1, Y: lowest}, api.V{X: api.Most, Y: 1}},
	} {
		if got := vec.Left(c.a); got != c.want {
			t.Errorf("Left(%v) = %v, want %v", c.a, got, c.want)
		}
	}
	for _, a := range vectors() {
		want := counted(api.V{X: less(0, a.Y), Y: a.X})
		if got := counted(vec.Left(a)); got != want {
			t.Fatalf("Left(%v) = %v, want %v", a, got, want)
		}
	}
}

func TestSpun(t *testing.T) {
	for _, c := range []struct {
		w    api.F
		r    api.V
		want api.V
	}{
		{0, whole(3, 4), api.V{}},
		{api.One, api.V{}, api.V{}},
		{api.One, whole(3, 4), whole(-4, 3)},
		{-api.One, whole(3, 4), whole(4, -3)},
		{fix.Of(5), whole(3, -4), whole(20, 15)},
		{half, api.V{X: 3, Y: 3}, api.V{X: -1, Y: 1}},
		{half, api.V{X: 1, Y: 1}, api.V{}},
		{fix.Of(2), api.V{X: api.Most, Y: api.Most}, api.V{X: api.Least, Y: api.Most}},
		{api.Least, whole(1, 1), api.V{X: api.Most, Y: api.Least}},
		{lowest, whole(1, 1), api.V{X: api.Most, Y: api.Least}},
		{api.One, api.V{X: lowest, Y: lowest}, api.V{X: api.Most, Y: api.Least}},
	} {
		if got := vec.Spun(c.w, c.r); got != c.want {
			t.Errorf("Spun(%d, %v) = %v, want %v", c.w, c.r, got, c.want)
		}
	}
	pairs(func(a, b api.V) {
		want := api.V{X: times(less(0, b.Y), a.X), Y: times(b.X, a.X)}
		if got := vec.Spun(a.X, b); got != want {
			t.Fatalf("Spun(%d, %v) = %v, want %v", a.X, b, got, want)
		}
	})
}

func TestLen(t *testing.T) {
	for _, c := range []struct {
		a    api.V
		want api.F
	}{
		{api.V{}, 0},
		{whole(3, 4), fix.Of(5)},
		{whole(-3, 4), fix.Of(5)},
		{whole(-5, -12), fix.Of(13)},
		{whole(0, -7), fix.Of(7)},
		{whole(1, 1), 6074000999},
		// Squares of less than 2^-32 are rounded to 0.
		{api.V{X: 1, Y: -1}, 0},
		{api.V{X: 65535, Y: -65535}, 0},
		{api.V{X: 65536, Y: 65535}, 65536},
		{api.V{X: 0, Y: -65536}, 65536},
		// A square that is rounded down may have a root that is less.
		{api.V{X: longest}, longest - 1},
		{api.V{X: longest + 1}, longest},
		// Beyond its square's range it stays the same.
		{api.V{X: api.Far}, longest},
		{api.V{X: longest, Y: longest}, longest},
		{api.V{X: api.Most, Y: 0}, longest},
		{api.V{X: api.Least, Y: api.Most}, longest},
		{api.V{X: lowest, Y: lowest}, longest},
		{api.V{X: 0, Y: lowest}, longest},
	} {
		if got := vec.Len(c.a); got != c.want {
			t.Errorf("Len(%v) = %d, want %d", c.a, got, c.want)
		}
	}
	for _, a := range vectors() {
		if got, want := vec.Len(a), root(dot(a, a)); got != want {
			t.Fatalf("Len(%v) = %d, want %d", a, got, want)
		}
	}
}

func TestUnit(t *testing.T) {
	const (
		threeFifths = 2576980377 // rounded toward 0
		fourFifths  = 3435973836
	)
	for _, c := range []struct {
		a, want api.V
		ok      bool
	}{
		{whole(3, 4), api.V{X: threeFifths, Y: fourFifths}, true},
		{whole(-3, 4), api.V{X: -threeFifths, Y: fourFifths}, true},
		{whole(-4, -3), api.V{X: -fourFifths, Y: -threeFifths}, true},
		{whole(7, 0), whole(1, 0), true},
		{whole(0, -7), whole(0, -1), true},
		{api.V{}, api.V{}, false},
		{api.V{X: 1}, api.V{}, false},
		{api.V{X: 65535, Y: -65535}, api.V{}, false},
		{api.V{X: 65536}, whole(1, 0), true},
		{api.V{X: 65535, Y: -65536}, api.V{X: 65535 * 65536, Y: -api.One}, true},
		// Where the length is saturated, the result is longer than 1.
		{api.V{X: longest, Y: -longest}, whole(1, -1), true},
		{api.V{X: 3 * longest, Y: -longest}, whole(3, -1), true},
		{api.V{X: api.Most, Y: api.Least}, api.V{X: by(api.Most, longest), Y: by(api.Least, longest)}, true},
		{api.V{X: lowest}, api.V{X: by(api.Least, longest)}, true},
	} {
		if got, ok := vec.Unit(c.a); got != c.want || ok != c.ok {
			t.Errorf("Unit(%v) = %v, %t, want %v, %t", c.a, got, ok, c.want, c.ok)
		}
	}
	for _, a := range vectors() {
		got, ok := vec.Unit(a)
		length := root(dot(a, a))
		var want api.V
		if length != 0 {
			want = api.V{X: by(a.X, length), Y: by(a.Y, length)}
		}
		if got != want || ok != (length != 0) {
			t.Fatalf("Unit(%v) = %v, %t, want %v, %t", a, got, ok, want, length != 0)
		}
	}
}

func TestApply(t *testing.T) {
	diagonal := turn.Of(api.One / 8)
	for _, c := range []struct {
		r       turn.Rot
		a, want api.V
	}{
		{turn.Of(0), whole(3, 4), whole(3, 4)},
		{turn.Of(quarter), whole(3, 4), whole(-4, 3)},
		{turn.Of(half), whole(3, 4), whole(-3, -4)},
		{turn.Of(3 * quarter), whole(3, 4), whole(4, -3)},
		{diagonal, whole(1, 0), api.V{X: 3037000500, Y: 3037000500}},
		{diagonal, whole(0, 1), api.V{X: -3037000500, Y: 3037000500}},
		{diagonal, whole(1, 1), api.V{X: 0, Y: 6074001000}},
		// Each product is rounded before they are added.
		{turn.Rot{C: half, S: half}, api.V{X: 1, Y: 1}, api.V{}},
		{turn.Rot{C: half, S: half}, api.V{X: 3, Y: 1}, api.V{X: 1, Y: 1}},
		// And saturated.
		{turn.Rot{C: 2 * api.One, S: api.One}, api.V{X: api.Most, Y: api.Most}, api.V{X: 0, Y: api.Most}},
		{diagonal, api.V{X: api.Most, Y: api.Least}, api.V{X: api.Most, Y: 0}},
		{turn.Of(0), api.V{X: lowest, Y: lowest}, api.V{X: api.Least, Y: api.Least}},
		{turn.Of(quarter), api.V{X: lowest, Y: lowest}, api.V{X: api.Most, Y: api.Least}},
		{turn.Rot{C: lowest, S: 0}, whole(1, -1), api.V{X: api.Least, Y: api.Most}},
		{turn.Rot{}, api.V{X: api.Most, Y: lowest}, api.V{}},
	} {
		if got := vec.Apply(c.r, c.a); got != c.want {
			t.Errorf("Apply(%v, %v) = %v, want %v", c.r, c.a, got, c.want)
		}
	}
	rotated(func(r turn.Rot, a api.V) {
		want := api.V{
			X: less(times(r.C, a.X), times(r.S, a.Y)),
			Y: sum(times(r.S, a.X), times(r.C, a.Y)),
		}
		if got := vec.Apply(r, a); got != want {
			t.Fatalf("Apply(%v, %v) = %v, want %v", r, a, got, want)
		}
	})
}

func TestBack(t *testing.T) {
	diagonal := turn.Of(api.One / 8)
	for _, c := range []struct {
		r       turn.Rot
		a, want api.V
	}{
		{turn.Of(0), whole(3, 4), whole(3, 4)},
		{turn.Of(quarter), whole(3, 4), whole(4, -3)},
		{turn.Of(half), whole(3, 4), whole(-3, -4)},
		{turn.Of(3 * quarter), whole(3, 4), whole(-4, 3)},
		{diagonal, whole(1, 0), api.V{X: 3037000500, Y: -3037000500}},
		{diagonal, whole(0, 1), api.V{X: 3037000500, Y: 3037000500}},
		{diagonal, whole(1, 1), api.V{X: 6074001000, Y: 0}},
		// Each product is rounded before they are added.
		{turn.Rot{C: half, S: half}, api.V{X: 1, Y: 1}, api.V{}},
		{turn.Rot{C: half, S: half}, api.V{X: 1, Y: 3}, api.V{X: 1, Y: 1}},
		// And saturated.
		{turn.Rot{C: 2 * api.One, S: api.One}, api.V{X: api.Most, Y: api.Most}, api.V{X: api.Most, Y: 0}},
		{diagonal, api.V{X: api.Most, Y: api.Least}, api.V{X: 0, Y: api.Least}},
		{turn.Of(0), api.V{X: lowest, Y: lowest}, api.V{X: api.Least, Y: api.Least}},
		{turn.Of(quarter), api.V{X: lowest, Y: lowest}, api.V{X: api.Least, Y: api.Most}},
		{turn.Rot{C: lowest, S: 0}, whole(1, -1), api.V{X: api.Least, Y: api.Most}},
		{turn.Rot{}, api.V{X: api.Most, Y: lowest}, api.V{}},
	} {
		if got := vec.Back(c.r, c.a); got != c.want {
			t.Errorf("Back(%v, %v) = %v, want %v", c.r, c.a, got, c.want)
		}
	}
	rotated(func(r turn.Rot, a api.V) {
		want := api.V{
			X: sum(times(r.C, a.X), times(r.S, a.Y)),
			Y: less(times(r.C, a.Y), times(r.S, a.X)),
		}
		if got := vec.Back(r, a); got != want {
			t.Fatalf("Back(%v, %v) = %v, want %v", r, a, got, want)
		}
	})
}

func TestBackAfterApply(t *testing.T) {
	for quarters := range api.F(4) {
		r := turn.Of(quarters * quarter)
		for _, a := range vectors() {
			if got := vec.Back(r, vec.Apply(r, a)); got != counted(a) {
				t.Fatalf("Back of Apply of %v, by %d quarter turns, = %v", a, quarters, got)
			}
			if got := vec.Apply(r, vec.Back(r, a)); got != counted(a) {
				t.Fatalf("Apply of Back of %v, by %d quarter turns, = %v", a, quarters, got)
			}
		}
	}
}

// Other rotations are undone but for what rounding takes.
func TestBackAfterApplyForEveryStep(t *testing.T) {
	a := api.V{X: 12345678901, Y: -98765432109}
	for step := range api.F(1024) {
		r := turn.Of(step * (api.One / 1024))
		off := vec.Sub(vec.Back(r, vec.Apply(r, a)), a)
		if max(fix.Abs(off.X), fix.Abs(off.Y)) > 64 {
			t.Errorf("Back of Apply of %v, by step %d, is off by %v", a, step, off)
		}
	}
}

func TestBring(t *testing.T) {
	for _, c := range []struct {
		a    api.V
		most api.F
		want api.V
	}{
		{whole(3, -4), fix.Of(5), whole(3, -4)},
		{whole(3, -4), fix.Of(3), whole(3, -3)},
		{whole(3, -4), fix.Of(2), whole(2, -2)},
		{whole(-3, 4), fix.Of(3), whole(-3, 3)},
		{whole(-9, 1), fix.Of(3), whole(-3, 1)},
		{api.V{X: 7, Y: -7}, 7, api.V{X: 7, Y: -7}},
		{api.V{X: 8, Y: -8}, 7, api.V{X: 7, Y: -7}},
		{api.V{X: 6, Y: -6}, 7, api.V{X: 6, Y: -6}},
		{whole(3, -4), 0, api.V{}},
		{api.V{X: 1, Y: -1}, 0, api.V{}},
		{api.V{}, 0, api.V{}},
		{api.V{X: api.Most, Y: lowest}, 0, api.V{}},
		{api.V{X: api.Most, Y: api.Least}, api.Most, api.V{X: api.Most, Y: api.Least}},
		{api.V{X: api.Most, Y: api.Least}, api.Most - 1, api.V{X: api.Most - 1, Y: api.Least + 1}},
		{api.V{X: lowest, Y: lowest}, api.Most, api.V{X: api.Least, Y: api.Least}},
		{api.V{X: lowest, Y: 5}, 3, api.V{X: -3, Y: 3}},
		{whole(3, -4), api.Most, whole(3, -4)},
	} {
		if got := vec.Bring(c.a, c.most); got != c.want {
			t.Errorf("Bring(%v, %d) = %v, want %v", c.a, c.most, got, c.want)
		}
	}
	for _, a := range vectors() {
		for _, most := range []api.F{0, 1, 65536, api.One, api.Whirl, api.Fast, api.Far, api.Most - 1, api.Most} {
			want := api.V{X: limited(a.X, -most, most), Y: limited(a.Y, -most, most)}
			if got := vec.Bring(a, most); got != want {
				t.Fatalf("Bring(%v, %d) = %v, want %v", a, most, got, want)
			}
		}
	}
}

// TestAnyArguments is for P0: no call may panic, whatever it is given.
func TestAnyArguments(t *testing.T) {
	pairs(func(a, b api.V) {
		vec.Add(a, b)
		vec.Sub(a, b)
		vec.Neg(a)
		vec.Scale(a, b.X)
		vec.Dot(a, b)
		vec.Cross(a, b)
		vec.Left(a)
		vec.Spun(a.X, b)
		vec.Len(a)
		vec.Unit(a)
		vec.Apply(turn.Rot{C: b.X, S: b.Y}, a)
		vec.Back(turn.Rot{C: b.X, S: b.Y}, a)
		vec.Bring(a, b.X)
	})
}
