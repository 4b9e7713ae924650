package mass_test

import (
	"math"
	"math/big"
	"slices"
	"testing"

	"bagatelle/api"
	"bagatelle/fix"
	"bagatelle/mass"
	"bagatelle/shape"
	"bagatelle/turn"
	"bagatelle/vec"
)

const (
	// lowest is -2^63, which counts as Least.
	lowest api.F = -1 << 63
	// some is how many units may depend on which corner is the first one.
	some api.F = 16
)

func whole(x, y int) api.V {
	return api.V{X: fix.Of(x), Y: fix.Of(y)}
}

func circle(r api.F) api.Shape {
	return api.Shape{Kind: api.Circle, R: r}
}

func polygon(p ...api.V) api.Shape {
	return api.Shape{Kind: api.Poly, P: p}
}

// wholes returns the polygon of whole numbers, each corner X, Y.
func wholes(p ...[2]int) api.Shape {
	s := polygon()
	for _, c := range p {
		s.P = append(s.P, whole(c[0], c[1]))
	}
	return s
}

// square returns the one with sides of 2 around x, y.
func square(x, y int) api.Shape {
	return wholes([2]int{x - 1, y - 1}, [2]int{x + 1, y - 1}, [2]int{x + 1, y + 1}, [2]int{x - 1, y + 1})
}

// octagon returns the square with sides of 4 around 0, 0, less its four
// corners.
func octagon() api.Shape {
	return wholes([2]int{1, -2}, [2]int{2, -1}, [2]int{2, 1}, [2]int{1, 2}, [2]int{-1, 2}, [2]int{-2, 1}, [2]int{-2, -1}, [2]int{-1, -2})
}

// regular returns the regular polygon of n corners around a place, nearly.
func regular(n int, r api.F, at api.V) api.Shape {
	s := polygon()
	for i := range n {
		s.P = append(s.P, vec.Add(vec.Apply(turn.Of(fix.Part(i, n)), api.V{X: r}), at))
	}
	return s
}

// from returns s with its corner i as the first one.
func from(s api.Shape, i int) api.Shape {
	return polygon(slices.Concat(s.P[i:], s.P[:i])...)
}

func extremes() []api.F {
	return []api.F{lowest, api.Least, api.Least + 1, -api.One, -1, 0, 1, api.One, api.Most - 1, api.Most}
}

// noise returns a function that returns numbers of so many bits and a sign,
// always the same.
func noise() func(bits int) api.F {
	state := uint64(88172645463325252)
	return func(bits int) api.F {
		state ^= state << 13
		state ^= state >> 7
		state ^= state << 17
		return api.F(state) >> (63 - bits)
	}
}

// known is a valid shape with its Area and Round, each summand of which is
// rounded toward 0.
type known struct {
	what        string
	s           api.Shape
	area, round api.F
}

func circles() []known {
	return []known{
		{"a circle at Small", circle(shape.Small), 205887, 1},
		{"a circle of 1", circle(api.One), 13493037705, 6746518852},
		{"a circle of 2", circle(2 * api.One), 53972150820, 107944301640},
		{"a circle at Great", circle(shape.Great), 55267482439680, 113187804036464640},
	}
}

func polygons() []known {
	const (
		twoThirds = 2863311530
		behind    = 11453246122 // a side with 0, 0 on its other side: 8/3
		great     = 1 << 57 / 3 // a side of the greatest square
		octagon13 = 18611524949 // a slant side of the octagon: 13/3
	)
	return []known{
		{"a square", square(0, 0), 4 * api.One, 4 * twoThirds},
		{"a square by Box", shape.Box(api.One, api.One), 4 * api.One, 4 * twoThirds},
		{"a square far to the right", square(2, 2), 4 * api.One, 40*api.One - 2*behind},
		{"a square far to the left", square(-2, -2), 4 * api.One, 40*api.One - 2*behind},
		{"three corners", wholes([2]int{0, 0}, [2]int{4, 0}, [2]int{0, 3}), 6 * api.One, 25 * api.One},
		{"half a unit square", wholes([2]int{0, 0}, [2]int{1, 0}, [2]int{0, 1}), api.One / 2, 715827882},
		{"eight corners", octagon(), 14 * api.One, 4*7*api.One/2 + 4*octagon13},
		{"the greatest square", shape.Box(shape.Great, shape.Great), 16384 * api.One, 4 * great},
		{"a narrow box", shape.Box(api.One, 1), 4, 0},
		{"a box where both are 0", polygon(api.V{}, api.V{X: 1 << 16}, api.V{X: 1 << 16, Y: 1 << 16}, api.V{Y: 1 << 16}), 0, 0},
	}
}

// sized returns so many valid polygons of 3 to 8 corners: regular ones with a
// radius of so many bits, around 0, 0 or far from it, each corner moved a little.
func sized(t *testing.T, bits, count int) []api.Shape {
	t.Helper()
	next := noise()
	var l []api.Shape
	for try := range 100 * count {
		if len(l) == count {
			return l
		}
		s := regular(3+try%6, fix.Abs(next(bits)), api.V{X: next(bits + try%(39-bits)), Y: next(bits + try/7%(39-bits))})
		for i := range s.P {
			s.P[i] = vec.Add(s.P[i], api.V{X: next(bits - 2), Y: next(bits - 2)})
		}
		if shape.Right(s) {
			l = append(l, s)
		}
	}
	t.Fatalf("only %d valid polygons of %d bits", len(l), bits)
	return nil
}

// many returns valid polygons of all sizes.
func many(t *testing.T) []api.Shape {
	t.Helper()
	var l []api.Shape
	for _, k := range polygons() {
		l = append(l, k.s)
	}
	for n := 3; n <= api.MaxCorners; n++ {
		l = append(l, regular(n, api.One, api.V{}), regular(n, shape.Small, whole(63, -63)), regular(n, shape.Great, api.V{}))
	}
	for bits := 17; bits < 38; bits++ {
		l = append(l, sized(t, bits, 400)...)
	}
	return l
}

func checkBoth(t *testing.T, what string, s api.Shape, area, round api.F) {
	t.Helper()
	if got := mass.Area(s); got != area {
		t.Errorf("%s: Area(%v) = %d, want %d", what, s, got, area)
	}
	if got := mass.Round(s); got != round {
		t.Errorf("%s: Round(%v) = %d, want %d", what, s, got, round)
	}
}

func TestKnownShapes(t *testing.T) {
	for _, k := range append(circles(), polygons()...) {
		if !shape.Right(k.s) {
			t.Fatalf("%s isn't valid: %v", k.what, k.s)
		}
		checkBoth(t, k.what, k.s, k.area, k.round)
		for i := range k.s.P {
			checkBoth(t, k.what+" from another corner", from(k.s, i), k.area, k.round)
		}
	}
}

// The document's example, whose Round isn't a number of units.
func TestTheSquareOfTheDocument(t *testing.T) {
	s := square(0, 0)
	if got := mass.Area(s); got != fix.Of(4) {
		t.Errorf("Area(%v) = %d", s, got)
	}
	if off := fix.Abs(mass.Round(s) - fix.Part(8, 3)); off > some {
		t.Errorf("Round(%v) isn't 8/3, by %d", s, off)
	}
}

// The chapter's words for any circle, and that more of it weighs more.
func TestManyCircles(t *testing.T) {
	l := []api.F{shape.Small, shape.Small + 1, api.One / 3, api.One - 1, api.One + 1, api.Pi, shape.Great - 1, shape.Great}
	next := noise()
	for n := range 4000 {
		l = append(l, shape.Small+fix.Abs(next(25+n%14))/2)
	}
	slices.Sort(l)
	var area, round api.F
	for _, r := range l {
		s := circle(r)
		if !shape.Right(s) {
			continue
		}
		square := fix.Mul(r, r)
		wantArea := fix.Mul(api.Pi, square)
		wantRound := fix.Div(fix.Mul(wantArea, square), fix.Of(2))
		checkBoth(t, "a circle", s, wantArea, wantRound)
		if wantArea < area || wantRound < round {
			t.Errorf("a circle of %d is less than that of a lesser radius", r)
		}
		area, round = wantArea, wantRound
	}
}

// The chapter's words for any valid polygon, from each of its corners.
func TestManyPolygons(t *testing.T) {
	for _, s := range many(t) {
		for i := range s.P {
			turned := from(s, i)
			var areas, rounds []api.F
			for k, a := range turned.P {
				b := turned.P[(k+1)%len(turned.P)]
				cross := vec.Cross(a, b)
				areas = append(areas, fix.Div(cross, fix.Of(2)))
				squares := fix.Sum(vec.Dot(a, a), vec.Dot(a, b), vec.Dot(b, b))
				rounds = append(rounds, fix.Div(fix.Mul(cross, squares), fix.Of(12)))
			}
			checkBoth(t, "a polygon", turned, fix.Sum(areas...), fix.Sum(rounds...))
		}
	}
}

// product returns a.X * x + a.Y * y, in units of 2^-64.
func product(a api.V, x, y api.F) *big.Int {
	first := new(big.Int).Mul(big.NewInt(int64(a.X)), big.NewInt(int64(x)))
	second := new(big.Int).Mul(big.NewInt(int64(a.Y)), big.NewInt(int64(y)))
	return first.Add(first, second)
}

// exact returns the area of a polygon in units of 2^-65, and its moment of
// inertia in units of 2^-128 / 12, both without an error.
func exact(p []api.V) (area, round *big.Int) {
	area, round = new(big.Int), new(big.Int)
	for i, a := range p {
		b := p[(i+1)%len(p)]
		cross := product(a, b.Y, -b.X)
		area.Add(area, cross)
		squares := product(a, a.X, a.Y)
		squares.Add(squares, product(a, b.X, b.Y)).Add(squares, product(b, b.X, b.Y))
		round.Add(round, cross.Mul(cross, squares))
	}
	return area, round
}

// units returns n / (by * 2^shift), rounded down.
func units(n *big.Int, by int64, shift uint) api.F {
	whole := new(big.Int).Rsh(n, shift)
	return api.F(whole.Div(whole, big.NewInt(by)).Int64())
}

// Both are those of the real polygon, but for what is lost by rounding: less
// than two units a side of its area, and of its Round as much for each 12 of
// the sum of three squares that these are multiplied by.
func TestPolygonsAreNearTheRealOnes(t *testing.T) {
	for _, s := range many(t) {
		exactArea, exactRound := exact(s.P)
		sides := api.F(len(s.P))
		if off := fix.Abs(mass.Area(s) - units(exactArea, 1, 33)); off > 2*sides {
			t.Errorf("Area(%v) is wrong by %d units", s, off)
		}
		reach := shape.Reach(s)>>32 + 1
		if off := fix.Abs(mass.Round(s) - units(exactRound, 12, 96)); off > sides*(3+reach*reach) {
			t.Errorf("Round(%v) is wrong by %d units", s, off)
		}
	}
}

// TestNotNegative is for P5.2. The polygons here have an area of at least 2^-16,
// more than what is lost by rounding; of lesser ones, the test above tells how
// near they are to the real ones, and the one below that they may be less than 0.
func TestNotNegative(t *testing.T) {
	count := 0
	for _, s := range many(t) {
		area, _ := exact(s.P)
		if units(area, 1, 33) < 1<<16 {
			continue
		}
		count++
		for i := range s.P {
			one := from(s, i)
			if area, round := mass.Area(one), mass.Round(one); area <= 0 || round < 0 {
				t.Errorf("Area %d and Round %d of %v", area, round, one)
			}
		}
	}
	if count < 4000 {
		t.Errorf("only %d polygons are great enough", count)
	}
	for _, k := range append(circles(), polygons()...) {
		if area, round := mass.Area(k.s), mass.Round(k.s); area < 0 || round < 0 {
			t.Errorf("%s: Area %d and Round %d", k.what, area, round)
		}
	}
}

// An area of a few units is less than what is lost by rounding. The chapter's
// Sum (P5.1) may then be less than 0, though P5.2 says that it isn't; a body of
// that shape is as light as one can be.
func TestTheLeastPolygons(t *testing.T) {
	s := polygon(api.V{X: -15828393, Y: 110422102}, api.V{X: -15608298, Y: 110502061}, api.V{X: -15726904, Y: 110467290})
	if !shape.Right(s) {
		t.Fatalf("%v isn't valid", s)
	}
	if got := mass.Area(s); got != -2 {
		t.Errorf("Area(%v) = %d, want -2", s, got)
	}
	checkMass(t, "the least polygon", s, api.One, mass.Mass{M: 1, I: 1, Move: api.Most, Spin: api.Most})
}

// The rest of P5.2.
func TestTheFirstCornerDoesNotMatter(t *testing.T) {
	for _, s := range many(t) {
		area, round := mass.Area(s), mass.Round(s)
		for i := range s.P {
			one := from(s, i)
			if off := fix.Abs(mass.Area(one) - area); off > some {
				t.Errorf("Area(%v) from its corner %d differs by %d units", s, i, off)
			}
			if off := fix.Abs(mass.Round(one) - round); off > some {
				t.Errorf("Round(%v) from its corner %d differs by %d units", s, i, off)
			}
		}
	}
}

// Its area stays as it is, and its Round becomes more by the area times the
// square of how far it is moved from its middle at 0, 0.
func TestMovedSquares(t *testing.T) {
	for x := -63; x <= 63; x += 7 {
		for y := -63; y <= 63; y += 9 {
			s := square(x, y)
			want := fix.Of(4*(x*x+y*y)) + fix.Part(8, 3)
			if area, off := mass.Area(s), fix.Abs(mass.Round(s)-want); area != fix.Of(4) || off > some {
				t.Errorf("%v has the Area %d, and its Round is wrong by %d units", s, area, off)
			}
		}
	}
}

func checkMass(t *testing.T, what string, s api.Shape, density api.F, want mass.Mass) {
	t.Helper()
	body := api.Body{ID: 1, Density: density, Shape: s}
	if got := mass.Of(body); got != want {
		t.Errorf("%s: Of a body of density %d = %+v, want %+v", what, density, got, want)
	}
}

func TestOf(t *testing.T) {
	least := mass.Mass{M: 1, I: 1, Move: api.Most, Spin: api.Most}
	const half, quarter = api.One / 2, api.One / 4
	triangle := wholes([2]int{63, 63}, [2]int{64, 63}, [2]int{63, 64}) // its area is 1/2
	for _, c := range []struct {
		what    string
		s       api.Shape
		density api.F
		want    mass.Mass
	}{
		{"a square", square(0, 0), api.One, mass.Mass{M: 4 * api.One, I: 11453246120, Move: quarter, Spin: 1610612736}},
		{"half as heavy", square(0, 0), half, mass.Mass{M: 2 * api.One, I: 5726623060, Move: half, Spin: 3221225472}},
		{"of -3/2 and a unit", square(0, 0), -api.One - half + 1, mass.Mass{}},
		{"a triangle", wholes([2]int{0, 0}, [2]int{4, 0}, [2]int{0, 3}), 2 * api.One, mass.Mass{M: 12 * api.One, I: 50 * api.One, Move: 357913941, Spin: 85899345}},
		{"a circle", circle(api.One), api.One, mass.Mass{M: 13493037705, I: 6746518852, Move: 1367130551, Spin: 2734261102}},
		{"the least circle of one unit", circle(shape.Small), 1, least},
		{"the least circle", circle(shape.Small), api.One, mass.Mass{M: 205887, I: 1, Move: 89596448895314, Spin: api.Most}},
		{"the least circle, less heavy", circle(shape.Small), api.One - 1, mass.Mass{M: 205886, I: 1, Move: 89596884070357, Spin: api.Most}},
		{"the greatest circle of one unit", circle(shape.Great), 1, mass.Mass{M: 12867, I: 26353589, Move: 1433647631437751, Spin: 699970849272}},
		{"a square of one unit", square(0, 0), 1, mass.Mass{M: 4, I: 2, Move: 1 << 62, Spin: api.Most}},
		{"a square of two units", square(0, 0), 2, mass.Mass{M: 8, I: 5, Move: 1 << 61, Spin: 3689348814741910323}},
		{"M is 1, and I isn't", triangle, 1, mass.Mass{M: 1, I: 4011, Move: api.Most, Spin: 4599038662106594}},
		{"I is 1, and M isn't", shape.Box(api.One, 1), api.One, mass.Mass{M: 4, I: 1, Move: 1 << 62, Spin: api.Most}},
		{"both are 1", shape.Box(api.One, 1), api.One / 8, least},
		{"a density at Most", square(0, 0), api.Most, mass.Mass{M: api.Most, I: api.Most, Move: 2, Spin: 2}},
		{"the greatest circle at Most", circle(shape.Great), api.Most, mass.Mass{M: api.Most, I: api.Most, Move: 2, Spin: 2}},
		{"the least circle at Most", circle(shape.Small), api.Most, mass.Mass{M: 442138965835775, I: 2147483647, Move: 41721, Spin: 8589934596}},
	} {
		checkMass(t, c.what, c.s, c.density, c.want)
	}
}

// Static bodies have no mass, of whatever shape.
func TestOfStaticBodies(t *testing.T) {
	for _, k := range append(circles(), polygons()...) {
		for _, density := range []api.F{0, -1, -api.One, -api.Pi, api.Least + 1, api.Least, lowest} {
			checkMass(t, k.what, k.s, density, mass.Mass{})
		}
	}
}

// The chapter's words for any valid shape and density.
func TestOfManyBodies(t *testing.T) {
	next := noise()
	l := many(t)
	for _, k := range circles() {
		l = append(l, k.s)
	}
	for n, s := range l {
		for _, density := range []api.F{1, api.One, api.Most, 1 + fix.Abs(next(n%62))} {
			m := max(1, fix.Mul(density, mass.Area(s)))
			i := max(1, fix.Mul(density, mass.Round(s)))
			checkMass(t, "a body", s, density, mass.Mass{M: m, I: i, Move: fix.Div(api.One, m), Spin: fix.Div(api.One, i)})
		}
	}
}

// Only the density and the shape of a body count.
func TestOfTheRestOfABody(t *testing.T) {
	want := mass.Of(api.Body{Density: api.Pi, Shape: octagon()})
	for _, a := range extremes() {
		b := api.Body{ID: int(a), Pos: api.V{X: a, Y: -a}, Vel: api.V{X: a, Y: a}, Angle: a, Spin: a, Density: api.Pi, Shape: octagon()}
		if got := mass.Of(b); got != want || want.M == 0 {
			t.Errorf("Of(%v) = %+v, want %+v", b, got, want)
		}
	}
}

func TestArgumentsStayAsTheyAre(t *testing.T) {
	for _, s := range many(t) {
		corners := slices.Clone(s.P)
		first := [2]api.F{mass.Area(s), mass.Round(s)}
		mass.Of(api.Body{Density: api.One, Shape: s})
		if !slices.Equal(s.P, corners) {
			t.Fatalf("the corners %v became %v", corners, s.P)
		}
		if again := [2]api.F{mass.Area(s), mass.Round(s)}; again != first {
			t.Fatalf("%v, and then %v of %v", first, again, s)
		}
	}
}

// invalid returns shapes of which only P0 promises anything.
func invalid() []api.Shape {
	l := []api.Shape{
		{},
		{Kind: api.Poly, P: []api.V{}},
		{Kind: api.Circle, P: []api.V{}},
		{Kind: 3, R: api.Pi, P: square(0, 0).P},
		{Kind: math.MinInt, R: lowest, P: []api.V{{}}},
		{Kind: math.MaxInt, R: api.Most},
		{Kind: api.Circle, R: api.One, P: square(0, 0).P},
		{Kind: api.Poly, R: api.One, P: square(0, 0).P},
		polygon(api.V{X: lowest, Y: lowest}),
		polygon(api.V{X: lowest, Y: api.Most}, api.V{X: api.Most, Y: lowest}),
		polygon(make([]api.V, 100000)...),
		wholes([2]int{0, 0}, [2]int{0, 3}, [2]int{4, 0}),
	}
	for _, a := range extremes() {
		l = append(l, circle(a), shape.Box(a, api.One), shape.Box(api.One, a), api.Shape{Kind: -1, R: a})
		for _, b := range extremes() {
			l = append(l, shape.Box(a, b), polygon(api.V{X: a, Y: b}, api.V{X: b, Y: a}, api.V{X: a, Y: a}))
		}
	}
	return l
}

// TestAnyArguments is for P0: no call may panic, whatever it is given. As to
// the density, the chapter has no other requirement.
func TestAnyArguments(t *testing.T) {
	for _, s := range invalid() {
		mass.Area(s)
		mass.Round(s)
		for _, density := range extremes() {
			got := mass.Of(api.Body{Density: density, Shape: s})
			if density <= 0 && got != (mass.Mass{}) {
				t.Errorf("Of a body of density %d = %+v", density, got)
			}
			if density > 0 && min(got.M, got.I) < 1 {
				t.Errorf("Of(%v) of density %d = %+v", s, density, got)
			}
		}
	}
}
