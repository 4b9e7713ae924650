package fix_test

import (
	"math"
	"math/big"
	"slices"
	"testing"

	"bagatelle/api"
	"bagatelle/fix"
)

// lowest is -2^63, which counts as Least.
const lowest api.F = -1 << 63

const half = api.One / 2

// exact returns the number as an integer of units of 2^-32, with lowest
// counting as Least.
func exact(a api.F) *big.Int {
	if a == lowest {
		a = api.Least
	}
	return big.NewInt(int64(a))
}

// saturated returns the number of that many units.
func saturated(n *big.Int) api.F {
	if n.Cmp(exact(api.Most)) > 0 {
		return api.Most
	}
	if n.Cmp(exact(api.Least)) < 0 {
		return api.Least
	}
	return api.F(n.Int64())
}

// edges returns numbers at which the calls change their behavior: all around
// the powers of 2, of both signs, and the ends of the range.
func edges() []api.F {
	l := []api.F{0, api.Most, api.Least, lowest, api.Pi, -api.Pi, api.InvTau, 3037000500, 199032864766430}
	for shift := range 63 {
		power := api.F(1) << shift
		l = append(l, power, -power, power-1, 1-power, power+1, -power-1)
	}
	return l
}

// noise returns numbers of all sizes, the same ones each time.
func noise(count int) []api.F {
	state := uint64(88172645463325252)
	next := func() uint64 {
		state ^= state << 13
		state ^= state >> 7
		state ^= state << 17
		return state
	}
	l := make([]api.F, count)
	for i := range l {
		l[i] = api.F(next()) >> (next() % 64)
	}
	return l
}

// pairs calls check for all pairs of edges, and for many others.
func pairs(check func(a, b api.F)) {
	for _, a := range edges() {
		for _, b := range edges() {
			check(a, b)
		}
	}
	l := noise(200001)
	for i := 1; i < len(l); i++ {
		check(l[i-1], l[i])
	}
}

type pair struct{ a, b, want api.F }

func checkPairs(t *testing.T, name string, call func(a, b api.F) api.F, l []pair) {
	t.Helper()
	for _, p := range l {
		if got := call(p.a, p.b); got != p.want {
			t.Errorf("%s(%d, %d) = %d, want %d", name, p.a, p.b, got, p.want)
		}
	}
}

func TestOf(t *testing.T) {
	for _, c := range []struct {
		n    int
		want api.F
	}{
		{0, 0},
		{1, api.One},
		{-1, -api.One},
		{-5, -5 * api.One},
		{1<<31 - 1, (1<<31 - 1) << 32},
		{1 << 31, api.Most},
		{1<<31 + 1, api.Most},
		{1 << 32, api.Most},
		{1<<32 + 1, api.Most},
		{math.MaxInt, api.Most},
		{1 - 1<<31, (1 - 1<<31) << 32},
		{-1 << 31, api.Least},
		{-1<<31 - 1, api.Least},
		{-1 << 32, api.Least},
		{-1<<32 - 1, api.Least},
		{math.MinInt, api.Least},
	} {
		if got := fix.Of(c.n); got != c.want {
			t.Errorf("Of(%d) = %d, want %d", c.n, got, c.want)
		}
	}
}

func TestPart(t *testing.T) {
	for _, c := range []struct {
		a, b int
		want api.F
	}{
		{1, 2, half},
		{-1, 2, -half},
		{1, -2, -half},
		{-1, -2, half},
		{1, 3, 1431655765},
		{-1, 3, -1431655765},
		{2, 3, 2863311530},
		{64, 5, 54975581388},
		{0, 7, 0},
		{1, 0, api.Most},
		{-1, 0, api.Least},
		{0, 0, 0},
		// Of saturates first: this isn't 1/2.
		{1 << 31, 1 << 32, api.One},
		{math.MinInt, math.MaxInt, -api.One},
		{1, math.MaxInt, 2},
		{1, 1<<31 - 1, 2},
	} {
		if got := fix.Part(c.a, c.b); got != c.want {
			t.Errorf("Part(%d, %d) = %d, want %d", c.a, c.b, got, c.want)
		}
	}
}

func TestPartIsDivOfOf(t *testing.T) {
	l := []int{0, 1, 2, 3, 5, 7, 12, 64, 1000, 1<<31 - 1, 1 << 31, 1<<31 + 1, 1 << 40, math.MaxInt, math.MinInt}
	for _, a := range l {
		for _, b := range l {
			for _, c := range [][2]int{{a, b}, {-a, b}, {a, -b}, {-a, -b}} {
				if got, want := fix.Part(c[0], c[1]), fix.Div(fix.Of(c[0]), fix.Of(c[1])); got != want {
					t.Errorf("Part(%d, %d) = %d, want %d", c[0], c[1], got, want)
				}
			}
		}
	}
}

func TestAdd(t *testing.T) {
	checkPairs(t, "Add", fix.Add, []pair{
		{2, 3, 5},
		{-2, -3, -5},
		{2, -3, -1},
		{api.Most, 0, api.Most},
		{api.Most, 1, api.Most},
		{1, api.Most, api.Most},
		{api.Most - 1, 1, api.Most},
		{api.Most, api.Most, api.Most},
		{api.Most, -1, api.Most - 1},
		{api.Least, 0, api.Least},
		{api.Least, -1, api.Least},
		{-1, api.Least, api.Least},
		{api.Least + 1, -1, api.Least},
		{api.Least, api.Least, api.Least},
		{api.Least, 1, api.Least + 1},
		{api.Most, api.Least, 0},
		{lowest, 0, api.Least},
		{0, lowest, api.Least},
		{lowest, 1, api.Least + 1},
		{1, lowest, api.Least + 1},
		{lowest, api.Most, 0},
		{api.Most, lowest, 0},
		{lowest, lowest, api.Least},
	})
	pairs(func(a, b api.F) {
		if got, want := fix.Add(a, b), saturated(new(big.Int).Add(exact(a), exact(b))); got != want {
			t.Fatalf("Add(%d, %d) = %d, want %d", a, b, got, want)
		}
	})
}

func TestSub(t *testing.T) {
	checkPairs(t, "Sub", fix.Sub, []pair{
		{5, 3, 2},
		{3, 5, -2},
		{api.Most, -1, api.Most},
		{api.Most, 1, api.Most - 1},
		{api.Least, 1, api.Least},
		{api.Least, -1, api.Least + 1},
		{0, api.Least, api.Most},
		{0, api.Most, api.Least},
		{api.Most, api.Least, api.Most},
		{api.Least, api.Most, api.Least},
		{0, lowest, api.Most},
		{-1, lowest, api.Most - 1},
		{1, lowest, api.Most},
		{lowest, 0, api.Least},
		{lowest, -1, api.Least + 1},
		{lowest, lowest, 0},
		{lowest, api.Least, 0},
		{api.Least, lowest, 0},
	})
	pairs(func(a, b api.F) {
		if got, want := fix.Sub(a, b), saturated(new(big.Int).Sub(exact(a), exact(b))); got != want {
			t.Fatalf("Sub(%d, %d) = %d, want %d", a, b, got, want)
		}
	})
}

func TestNegAndAbs(t *testing.T) {
	for _, c := range []struct{ a, neg, abs api.F }{
		{0, 0, 0},
		{1, -1, 1},
		{-1, 1, 1},
		{api.One, -api.One, api.One},
		{api.Most, api.Least, api.Most},
		{api.Least, api.Most, api.Most},
		{api.Least + 1, api.Most - 1, api.Most - 1},
		{lowest, api.Most, api.Most},
	} {
		if got := fix.Neg(c.a); got != c.neg {
			t.Errorf("Neg(%d) = %d, want %d", c.a, got, c.neg)
		}
		if got := fix.Abs(c.a); got != c.abs {
			t.Errorf("Abs(%d) = %d, want %d", c.a, got, c.abs)
		}
	}
	for _, a := range slices.Concat(edges(), noise(10000)) {
		if got, want := fix.Neg(a), saturated(new(big.Int).Neg(exact(a))); got != want {
			t.Fatalf("Neg(%d) = %d, want %d", a, got, want)
		}
		if got, want := fix.Abs(a), saturated(new(big.Int).Abs(exact(a))); got != want {
			t.Fatalf("Abs(%d) = %d, want %d", a, got, want)
		}
	}
}

func TestMul(t *testing.T) {
	checkPairs(t, "Mul", fix.Mul, []pair{
		{2 * api.One, 3 * api.One, 6 * api.One},
		{3 * half, -5 * api.One / 4, -15 * api.One / 8},
		{-2 * api.One, -3 * api.One, 6 * api.One},
		{0, api.Least, 0},
		{half, 1, 0},
		{half, -1, 0},
		{-half, -1, 0},
		{half, 3, 1},
		{half, -3, -1},
		{-half, 3, -1},
		{-half, -3, 1},
		{1, 1, 0},
		{1, -1, 0},
		{api.One - 1, 1, 0},
		{api.One - 1, -1, 0},
		{api.One, 1, 1},
		{api.Most, api.One, api.Most},
		{api.Most, -api.One, api.Least},
		{api.Least, -api.One, api.Most},
		{api.Most, api.One + 1, api.Most},
		{api.Most, api.One - 1, api.Most - 1<<31},
		{api.Most, api.Most, api.Most},
		{api.Most, api.Least, api.Least},
		{api.Least, api.Least, api.Most},
		{api.Most, -2 * api.One, api.Least},
		// 2^47 units squared are 2^62 units; 2^63 are too many.
		{1 << 47, 1 << 47, 1 << 62},
		{1 << 47, 1 << 48, api.Most},
		{1 << 48, -1 << 48, api.Least},
		{1 << 62, 1 << 62, api.Most},
		{1 << 62, -1 << 62, api.Least},
		{lowest, api.One, api.Least},
		{lowest, -api.One, api.Most},
		{api.One, lowest, api.Least},
		{lowest, half, api.Least / 2},
		{lowest, lowest, api.Most},
		{lowest, 0, 0},
	})
	pairs(func(a, b api.F) {
		want := new(big.Int).Mul(exact(a), exact(b))
		want.Quo(want, exact(api.One))
		if got := fix.Mul(a, b); got != saturated(want) {
			t.Fatalf("Mul(%d, %d) = %d, want %d", a, b, got, saturated(want))
		}
	})
}

func TestDiv(t *testing.T) {
	checkPairs(t, "Div", fix.Div, []pair{
		{6 * api.One, 3 * api.One, 2 * api.One},
		{7 * api.One, -2 * api.One, -7 * half},
		{-7 * api.One, -2 * api.One, 7 * half},
		{api.One, 3 * api.One, 1431655765},
		{-api.One, 3 * api.One, -1431655765},
		{api.One, -3 * api.One, -1431655765},
		{-api.One, -3 * api.One, 1431655765},
		{1, 2 * api.One, 0},
		{-1, 2 * api.One, 0},
		{3, 2 * api.One, 1},
		{-3, 2 * api.One, -1},
		{api.One, 0, api.Most},
		{1, 0, api.Most},
		{api.Most, 0, api.Most},
		{-api.One, 0, api.Least},
		{-1, 0, api.Least},
		{api.Least, 0, api.Least},
		{lowest, 0, api.Least},
		{0, 0, 0},
		{0, 5, 0},
		{0, -5, 0},
		{0, lowest, 0},
		{api.Most, 1, api.Most},
		{api.Most, -1, api.Least},
		{api.Least, 1, api.Least},
		{api.Least, -1, api.Most},
		{1 << 31, 1, api.Most},
		{1<<31 - 1, 1, (1<<31 - 1) << 32},
		{-1 << 31, 1, api.Least},
		{1 << 32, 1, api.Most},
		{1<<32 - 1, 1, api.Most},
		{1 << 32, -1, api.Least},
		{api.Most, api.One, api.Most},
		{api.Most, api.Most, api.One},
		{api.Most, api.Least, -api.One},
		{api.Least, api.Least, api.One},
		{lowest, api.Most, -api.One},
		{lowest, lowest, api.One},
		{lowest, api.One, api.Least},
		{lowest, -api.One, api.Most},
		{api.Most, lowest, -api.One},
		{1, api.Most, 0},
	})
	pairs(func(a, b api.F) {
		if b == 0 {
			return
		}
		want := new(big.Int).Mul(exact(a), exact(api.One))
		want.Quo(want, exact(b))
		if got := fix.Div(a, b); got != saturated(want) {
			t.Fatalf("Div(%d, %d) = %d, want %d", a, b, got, saturated(want))
		}
	})
}

func TestSqrt(t *testing.T) {
	for _, c := range []struct{ a, want api.F }{
		{0, 0},
		{-1, 0},
		{-api.One, 0},
		{api.Least, 0},
		{lowest, 0},
		{1, 1 << 16},
		{2, 92681},
		{api.One / 4, half},
		{api.One - 1, api.One - 1},
		{api.One, api.One},
		{api.One + 1, api.One},
		{2 * api.One, 6074000999},
		{4*api.One - 1, 2*api.One - 1},
		{4 * api.One, 2 * api.One},
		{9 * api.One, 3 * api.One},
		{1 << 62, 1 << 47},
		{1<<62 - 1, 1<<47 - 1},
		{api.Most - 1, 199032864766430},
		{api.Most, 199032864766430},
	} {
		if got := fix.Sqrt(c.a); got != c.want {
			t.Errorf("Sqrt(%d) = %d, want %d", c.a, got, c.want)
		}
	}
}

func checkSqrt(t *testing.T, a api.F) {
	t.Helper()
	want := big.NewInt(0)
	if a > 0 {
		want.Sqrt(new(big.Int).Mul(exact(a), exact(api.One)))
	}
	if got := fix.Sqrt(a); got != saturated(want) {
		t.Fatalf("Sqrt(%d) = %d, want %d", a, got, want)
	}
}

func TestSqrtIsTheGreatestRoot(t *testing.T) {
	for _, a := range slices.Concat(edges(), noise(50000)) {
		checkSqrt(t, a)
	}
}

func TestSqrtAroundSquares(t *testing.T) {
	for _, a := range slices.Concat(edges(), noise(20000)) {
		// k squared, as so many units, has the root k times 2^16 exactly.
		k := fix.Abs(a) >> 32
		if got, want := fix.Sqrt(k*k), k<<16; got != want {
			t.Fatalf("Sqrt(%d) = %d, want %d", k*k, got, want)
		}
		checkSqrt(t, k*k-1)
		checkSqrt(t, k*k+1)
	}
}

func TestBring(t *testing.T) {
	for _, c := range []struct{ a, low, high, want api.F }{
		{3, 1, 5, 3},
		{0, 1, 5, 1},
		{1, 1, 5, 1},
		{2, 1, 5, 2},
		{4, 1, 5, 4},
		{5, 1, 5, 5},
		{6, 1, 5, 5},
		{-9, -5, -1, -5},
		{9, -5, -1, -1},
		{7, 4, 4, 4},
		{4, 4, 4, 4},
		{1, 4, 4, 4},
		{api.Most, api.Least, api.Most, api.Most},
		{api.Least, api.Least, api.Most, api.Least},
		{0, api.Least, api.Most, 0},
		{api.Least, 0, 1, 0},
		{api.Most, 0, 1, 1},
		{lowest, api.Least, api.Most, api.Least},
		{lowest, lowest, api.Most, api.Least},
		{lowest, lowest, lowest, api.Least},
		{lowest, -1, 1, -1},
		{5, lowest, lowest, api.Least},
		{5, lowest, api.Least, api.Least},
		{5, api.Least, lowest, api.Least},
	} {
		if got := fix.Bring(c.a, c.low, c.high); got != c.want {
			t.Errorf("Bring(%d, %d, %d) = %d, want %d", c.a, c.low, c.high, got, c.want)
		}
	}
}

func TestSum(t *testing.T) {
	for _, c := range []struct {
		l    []api.F
		want api.F
	}{
		{nil, 0},
		{[]api.F{}, 0},
		{[]api.F{7}, 7},
		{[]api.F{-7}, -7},
		{[]api.F{lowest}, api.Least},
		{[]api.F{1, 2, 3, 4, 5, 6, 7, 8, 9, 10}, 55},
		{[]api.F{api.One, -half, -half}, 0},
		// It saturates at each addition, not at the end.
		{[]api.F{api.Most, 5, -7}, api.Most - 7},
		{[]api.F{5, api.Most, -7}, api.Most - 7},
		{[]api.F{api.Most, -7, 5}, api.Most - 2},
		{[]api.F{api.Least, -5, 7}, api.Least + 7},
		{[]api.F{api.Most, api.Most, api.Least}, 0},
		{[]api.F{api.Most, api.Least, api.Most}, api.Most},
		{[]api.F{api.Least, api.Least, api.Most, api.Most}, api.Most},
		{[]api.F{api.Most, 1, api.Least, -1, api.Least, -1, 3}, api.Least + 3},
		{[]api.F{lowest, lowest, api.Most}, 0},
	} {
		before := slices.Clone(c.l)
		if got := fix.Sum(c.l...); got != c.want {
			t.Errorf("Sum(%d) = %d, want %d", c.l, got, c.want)
		}
		if !slices.Equal(c.l, before) {
			t.Errorf("Sum changed its argument %d to %d", before, c.l)
		}
	}
	if got := fix.Sum(); got != 0 {
		t.Errorf("Sum() = %d, want 0", got)
	}
}

func TestSumAddsFromTheFirstOn(t *testing.T) {
	l := noise(5000)
	var want api.F
	for i, a := range l {
		want = fix.Add(want, a)
		if got := fix.Sum(l[:i+1]...); got != want {
			t.Fatalf("Sum of %d numbers = %d, want %d", i+1, got, want)
		}
	}
}

// TestAnyArguments is for P0: no call may panic, whatever it is given.
func TestAnyArguments(t *testing.T) {
	l := []api.F{lowest, api.Least, -api.One, -1, 0, 1, api.One, api.Most}
	for _, a := range l {
		for _, b := range l {
			for _, c := range l {
				fix.Bring(a, b, c)
				fix.Sum(a, b, c)
			}
		}
	}
	pairs(func(a, b api.F) {
		for _, call := range []func(a, b api.F) api.F{fix.Add, fix.Sub, fix.Mul, fix.Div} {
			if got := call(a, b); got == lowest {
				t.Fatalf("a call with %d and %d returns -2^63", a, b)
			}
		}
		fix.Part(int(a), int(b))
	})
	for _, a := range edges() {
		for _, call := range []func(a api.F) api.F{fix.Neg, fix.Abs, fix.Sqrt} {
			if got := call(a); got == lowest {
				t.Fatalf("a call with %d returns -2^63", a)
			}
		}
		fix.Of(int(a))
	}
}
