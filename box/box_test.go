package box_test

import (
	"math"
	"math/big"
	"slices"
	"testing"

	"bagatelle/api"
	"bagatelle/box"
	"bagatelle/fix"
	"bagatelle/shape"
	"bagatelle/turn"
	"bagatelle/vec"
)

const (
	// lowest is -2^63, which counts as Least.
	lowest  api.F = -1 << 63
	quarter       = api.One / 4
)

func whole(x, y int) api.V {
	return api.V{X: fix.Of(x), Y: fix.Of(y)}
}

func circle(r api.F) api.Shape {
	return api.Shape{Kind: api.Circle, R: r}
}

func polygon(p ...api.V) api.Shape {
	return api.Shape{Kind: api.Poly, P: p}
}

// from returns s with its corner i as the first one.
func from(s api.Shape, i int) api.Shape {
	return polygon(slices.Concat(s.P[i:], s.P[:i])...)
}

// rect returns the one of these units.
func rect(lowX, lowY, highX, highY api.F) box.Rect {
	return box.Rect{Lo: api.V{X: lowX, Y: lowY}, Hi: api.V{X: highX, Y: highY}}
}

// wholes returns the one of these whole numbers.
func wholes(lowX, lowY, highX, highY int) box.Rect {
	return box.Rect{Lo: whole(lowX, lowY), Hi: whole(highX, highY)}
}

// flipped returns a with its components exchanged.
func flipped(a box.Rect) box.Rect {
	return rect(a.Lo.Y, a.Lo.X, a.Hi.Y, a.Hi.X)
}

// counted returns a with Least for -2^63.
func counted(a box.Rect) box.Rect {
	return box.Rect{Lo: vec.Bring(a.Lo, api.Most), Hi: vec.Bring(a.Hi, api.Most)}
}

// atMost reports whether a is at most b, where -2^63 counts as Least.
func atMost(a, b api.F) bool {
	return max(a, api.Least) <= max(b, api.Least)
}

func extremes() []api.F {
	return []api.F{lowest, api.Least, api.Least + 1, -api.One, -1, 0, 1, api.One, api.Most - 1, api.Most}
}

// noise returns a function that returns numbers of so many bits and a sign,
// always the same.
func noise() func(bits int) api.F {
	state := uint64(88172645463325252)
	return func(bits int) api.F {
		state ^= state << 13
		state ^= state >> 7
		state ^= state << 17
		return api.F(state) >> (63 - bits)
	}
}

// three has its least components at its first corner, the greatest X at the
// second one, and the greatest Y at the third one.
func three() api.Shape {
	return polygon(whole(0, 0), whole(4, 1), whole(1, 3))
}

// eight has the least Y at its first corner, the greatest X at its third one,
// the greatest Y at its fifth one, and the least X at its seventh one.
func eight() api.Shape {
	return polygon(whole(0, -6), whole(3, -4), whole(5, -1), whole(4, 3), whole(1, 7), whole(-2, 4), whole(-3, 1), whole(-2, -3))
}

// valid returns shapes that are valid, of each kind and number of corners.
func valid(t *testing.T) []api.Shape {
	t.Helper()
	l := []api.Shape{
		circle(shape.Small), circle(api.One), circle(api.Pi), circle(shape.Great),
		three(), eight(), shape.Box(api.One, 2*api.One), shape.Box(api.One, 1), shape.Box(shape.Great, shape.Great),
		polygon(whole(50, 50), whole(64, 51), whole(60, 64)), polygon(whole(-64, -60), whole(-51, -64), whole(-50, -50)),
	}
	for n := 3; n <= api.MaxCorners; n++ {
		s := polygon()
		for i := range n {
			s.P = append(s.P, vec.Scale(vec.Apply(turn.Of(fix.Part(i, n)), whole(1, 0)), api.Pi))
		}
		l = append(l, s)
	}
	for _, s := range l {
		if !shape.Right(s) {
			t.Fatalf("%v isn't valid", s)
		}
	}
	return l
}

func checkOf(t *testing.T, what string, b api.Body, want box.Rect) {
	t.Helper()
	if got := box.Of(b); got != want {
		t.Errorf("%s: Of(%+v) = %v, want %v", what, b, got, want)
	}
}

func TestRect(t *testing.T) {
	var low, high api.V = whole(1, 2), whole(3, 4)
	a := box.Rect{Lo: low, Hi: high}
	if a.Lo != low || a.Hi != high || a != wholes(1, 2, 3, 4) || (box.Rect{}) != wholes(0, 0, 0, 0) {
		t.Errorf("a Rect from %v to %v is %v", low, high, a)
	}
}

func TestOfCircles(t *testing.T) {
	for _, c := range []struct {
		what string
		at   api.V
		r    api.F
		want box.Rect
	}{
		{"the document's example", whole(3, 0), api.One, wholes(2, -1, 4, 1)},
		{"at 0, 0", whole(0, 0), 2 * api.One, wholes(-2, -2, 2, 2)},
		{"to the left and above", whole(-7, 9), 3 * api.One, wholes(-10, 6, -4, 12)},
		{"the least one", api.V{X: 5, Y: -5}, shape.Small, rect(5-1<<24, -5-1<<24, 5+1<<24, -5+1<<24)},
		{"the greatest one", whole(100, -200), shape.Great, wholes(36, -264, 164, -136)},
		{"of a radius that isn't whole", api.V{X: 1, Y: 2}, api.Pi, rect(1-api.Pi, 2-api.Pi, 1+api.Pi, 2+api.Pi)},
		{"as far as a body may be", api.V{X: api.Far, Y: -api.Far}, api.One, rect(api.Far-api.One, -api.Far-api.One, api.Far+api.One, -api.Far+api.One)},
		{"at the end of the range", api.V{X: api.Most, Y: api.Least}, api.One, rect(api.Most-api.One, api.Least, api.Most, api.Least+api.One)},
		{"near the end of the range", api.V{X: api.Most - 1, Y: api.Least + 1}, shape.Small, rect(api.Most-1-1<<24, api.Least, api.Most, api.Least+1+1<<24)},
		{"at -2^63", api.V{X: lowest, Y: 0}, api.One, rect(api.Least, -api.One, api.Least+api.One, api.One)},
	} {
		for _, angle := range append(extremes(), quarter, quarter/2, 1<<22, -quarter) {
			checkOf(t, c.what, api.Body{Pos: c.at, Angle: angle, Shape: circle(c.r)}, c.want)
		}
	}
}

func TestOfCirclesAtEachStep(t *testing.T) {
	for step := range api.F(1024) {
		checkOf(t, "a circle", api.Body{Pos: whole(3, 0), Angle: step << 22, Shape: circle(api.One)}, wholes(2, -1, 4, 1))
	}
}

func TestOfPolygons(t *testing.T) {
	const (
		diagonal = 6074001000 // the root of 2, for a square at an eighth of a turn
		most     = api.Most
	)
	far := api.V{X: api.Far, Y: -api.Far}
	for _, c := range []struct {
		what  string
		s     api.Shape
		at    api.V
		angle api.F
		want  box.Rect
	}{
		{"a box", shape.Box(api.One, 2*api.One), api.V{}, 0, wholes(-1, -2, 1, 2)},
		{"a box, moved", shape.Box(api.One, 2*api.One), whole(10, 20), 0, wholes(9, 18, 11, 22)},
		{"a box, turned", shape.Box(api.One, 2*api.One), whole(10, 20), quarter, wholes(8, 19, 12, 21)},
		{"a box at an eighth", shape.Box(api.One, api.One), api.V{X: 3, Y: 5}, quarter / 2, rect(3-diagonal, 5-diagonal, 3+diagonal, 5+diagonal)},
		{"a box, less than a step further", shape.Box(api.One, api.One), api.V{X: 3, Y: 5}, quarter/2 + 1<<22 - 1, rect(3-diagonal, 5-diagonal, 3+diagonal, 5+diagonal)},
		{"three corners", three(), whole(10, -20), 0, wholes(10, -20, 14, -17)},
		{"three, a quarter", three(), whole(10, -20), quarter, wholes(7, -20, 10, -16)},
		{"three, a half", three(), whole(10, -20), 2 * quarter, wholes(6, -23, 10, -20)},
		{"three, three quarters", three(), whole(10, -20), 3 * quarter, wholes(10, -24, 13, -20)},
		{"three, another turn", three(), whole(10, -20), 5 * quarter, wholes(7, -20, 10, -16)},
		{"three, the other way", three(), whole(10, -20), -quarter, wholes(10, -24, 13, -20)},
		{"eight corners", eight(), whole(-1, 1), 0, wholes(-4, -5, 4, 8)},
		{"eight, a quarter", eight(), whole(-1, 1), quarter, wholes(-8, -2, 5, 6)},
		{"eight, a half", eight(), whole(-1, 1), 2 * quarter, wholes(-6, -6, 2, 7)},
		{"eight, three quarters", eight(), whole(-1, 1), 3 * quarter, wholes(-7, -4, 6, 4)},
		{"all to the right of 0, 0", three(), whole(100, 100), 0, wholes(100, 100, 104, 103)},
		{"all to the left of 0, 0", three(), whole(-100, -100), 0, wholes(-100, -100, -96, -97)},
		{"as far as a body may be", three(), far, 0, box.Rect{Lo: far, Hi: vec.Add(far, whole(4, 3))}},
		{"at the end of the range", shape.Box(api.One, api.One), api.V{X: most, Y: api.Least}, 0, rect(most-api.One, api.Least, most, api.Least+api.One)},
		{"at -2^63", shape.Box(api.One, api.One), api.V{X: lowest, Y: lowest}, quarter, rect(api.Least, api.Least, api.Least+api.One, api.Least+api.One)},
	} {
		for i := range c.s.P {
			checkOf(t, c.what, api.Body{Pos: c.at, Angle: c.angle, Shape: from(c.s, i)}, c.want)
		}
	}
}

// Each corner is the only one that is least or greatest in a component, in
// turn: each of the four is one corner here, which is the first one, then the
// last one, and so on.
func TestOfEachCorner(t *testing.T) {
	for n, want := range map[int]box.Rect{
		3: wholes(0, -6, 5, -1),
		4: wholes(0, -6, 5, 3),
		5: wholes(0, -6, 5, 7),
		6: wholes(-2, -6, 5, 7),
		7: wholes(-3, -6, 5, 7),
		8: wholes(-3, -6, 5, 7),
	} {
		for i := range n {
			s := from(polygon(eight().P[:n]...), i)
			if !shape.Right(s) {
				t.Fatalf("%v isn't valid", s)
			}
			turned := box.Rect{Lo: api.V{X: -want.Hi.Y, Y: want.Lo.X}, Hi: api.V{X: -want.Lo.Y, Y: want.Hi.X}}
			checkOf(t, "one corner", api.Body{Shape: s}, want)
			checkOf(t, "one corner, a quarter", api.Body{Angle: quarter, Shape: s}, turned)
		}
	}
}

// around returns the least and the greatest components of corners.
func around(p []api.V) box.Rect {
	var x, y []api.F
	for _, corner := range p {
		x, y = append(x, corner.X), append(y, corner.Y)
	}
	return rect(slices.Min(x), slices.Min(y), slices.Max(x), slices.Max(y))
}

// The chapter's words for any valid shape, place and angle.
func TestOfManyBodies(t *testing.T) {
	next := noise()
	for _, s := range valid(t) {
		for n := range 2000 {
			b := api.Body{Pos: api.V{X: next(1 + n%63), Y: next(1 + n%61)}, Angle: next(32 + n%31), Shape: s}
			if n < 1024 {
				b.Angle = api.F(n) << 22
			}
			if s.Kind == api.Circle {
				x, y := b.Pos.X, b.Pos.Y
				checkOf(t, "a circle", b, rect(fix.Sub(x, s.R), fix.Sub(y, s.R), fix.Add(x, s.R), fix.Add(y, s.R)))
				continue
			}
			checkOf(t, "a polygon", b, around(shape.Corners(s, b.Pos, b.Angle)))
		}
	}
}

// sides returns a with each of its sides moved inward by a unit, in turn.
func sides(a box.Rect) []box.Rect {
	return []box.Rect{
		rect(a.Lo.X+1, a.Lo.Y, a.Hi.X, a.Hi.Y), rect(a.Lo.X, a.Lo.Y+1, a.Hi.X, a.Hi.Y),
		rect(a.Lo.X, a.Lo.Y, a.Hi.X-1, a.Hi.Y), rect(a.Lo.X, a.Lo.Y, a.Hi.X, a.Hi.Y-1),
	}
}

// All corners lie in the box of a polygon, and in no lesser one.
func TestOfHoldsAllCorners(t *testing.T) {
	for _, s := range valid(t) {
		for step := range api.F(1024) {
			b := api.Body{Pos: whole(5, -8), Angle: step << 22, Shape: s}
			corners := shape.Corners(s, b.Pos, b.Angle)
			holds := func(a box.Rect) bool {
				return !slices.ContainsFunc(corners, func(p api.V) bool { return !box.Holds(a, p) })
			}
			a := box.Of(b)
			if !holds(a) {
				t.Fatalf("Of(%+v) = %v doesn't hold all of %v", b, a, corners)
			}
			for _, lesser := range sides(a) {
				if len(corners) > 0 && holds(lesser) {
					t.Fatalf("Of(%+v) = %v is too great", b, a)
				}
			}
		}
	}
}

// Only the place, the angle and the shape of a body count.
func TestOfTheRestOfABody(t *testing.T) {
	for _, s := range valid(t) {
		want := box.Of(api.Body{Pos: whole(1, 2), Angle: api.Pi, Shape: s})
		for _, a := range extremes() {
			v := api.V{X: a, Y: -a}
			checkOf(t, "the rest", api.Body{ID: int(a), Pos: whole(1, 2), Vel: v, Angle: api.Pi, Spin: a, Density: a, Shape: s}, want)
		}
	}
}

func TestArgumentsStayAsTheyAre(t *testing.T) {
	for _, s := range valid(t) {
		b := api.Body{Pos: whole(1, 2), Angle: quarter, Shape: shape.Copy(s)}
		first := box.Of(b)
		if !shape.Same(b.Shape, s) {
			t.Fatalf("Of made %v of %v", b.Shape, s)
		}
		if again := box.Of(b); again != first {
			t.Fatalf("Of(%+v) = %v, and then %v", b, first, again)
		}
	}
}

func checkMeet(t *testing.T, what string, a, b box.Rect, want bool) {
	t.Helper()
	for _, pair := range [][2]box.Rect{{a, b}, {b, a}, {flipped(a), flipped(b)}, {flipped(b), flipped(a)}} {
		if got := box.Meet(pair[0], pair[1]); got != want {
			t.Errorf("%s: Meet(%v, %v) = %t", what, pair[0], pair[1], got)
		}
	}
}

// Each of them is checked with its components exchanged, too, and the other way
// round.
func TestMeet(t *testing.T) {
	a := wholes(-2, -1, 4, 3)
	for _, c := range []struct {
		what string
		b    box.Rect
		want bool
	}{
		{"the same", a, true},
		{"one in the other", wholes(0, 0, 1, 1), true},
		{"one over a corner", wholes(3, 2, 9, 9), true},
		{"one across", wholes(0, -9, 1, 9), true},
		{"a side to the right", wholes(4, 0, 9, 1), true},
		{"a side to the left", wholes(-9, 0, -2, 1), true},
		{"a side above", wholes(0, 3, 1, 9), true},
		{"a side below", wholes(0, -9, 1, -1), true},
		{"one point right above", wholes(4, 3, 9, 9), true},
		{"one point right below", wholes(4, -9, 9, -1), true},
		{"one point left above", wholes(-9, 3, -2, 9), true},
		{"one point left below", wholes(-9, -9, -2, -1), true},
		{"a unit to the right", rect(4*api.One+1, 0, 9*api.One, api.One), false},
		{"a unit to the left", rect(-9*api.One, 0, -2*api.One-1, api.One), false},
		{"a unit above", rect(0, 3*api.One+1, api.One, 9*api.One), false},
		{"a unit below", rect(0, -9*api.One, api.One, -api.One-1), false},
		{"a unit off the point", rect(4*api.One, 3*api.One+1, 9*api.One, 9*api.One), false},
		{"a unit off the point, to the right", rect(4*api.One+1, 3*api.One, 9*api.One, 9*api.One), false},
		{"apart in both", wholes(100, 100, 101, 101), false},
		{"apart in X", wholes(100, 0, 101, 1), false},
		{"apart in Y", wholes(0, -101, 1, -100), false},
		{"a point within", wholes(0, 0, 0, 0), true},
		{"a point on the border", wholes(4, 0, 4, 0), true},
		{"a point at a corner", wholes(-2, 3, -2, 3), true},
		{"a point beyond", wholes(5, 0, 5, 0), false},
		{"all there is", rect(api.Least, api.Least, api.Most, api.Most), true},
	} {
		checkMeet(t, c.what, a, c.b, c.want)
	}
}

// grid returns all rectangles of a few units, also those whose Lo is greater
// than their Hi if all is true.
func grid(all bool) []box.Rect {
	var l []box.Rect
	for n := range 256 {
		x, y, w, h := api.F(n%4), api.F(n/4%4), api.F(n/16%4), api.F(n/64)
		if all || w >= x && h >= y {
			l = append(l, rect(x-1, y-1, w-1, h-1))
		}
	}
	return l
}

// points returns all points of and around the grid.
func points() []api.V {
	var l []api.V
	for x := api.F(-2); x <= 3; x++ {
		for y := api.F(-2); y <= 3; y++ {
			l = append(l, api.V{X: x, Y: y})
		}
	}
	return l
}

// Two rectangles meet if there is a point that both hold.
func TestMeetIsACommonPoint(t *testing.T) {
	for _, a := range grid(false) {
		for _, b := range grid(false) {
			common := slices.ContainsFunc(points(), func(p api.V) bool { return box.Holds(a, p) && box.Holds(b, p) })
			if got := box.Meet(a, b); got != common {
				t.Errorf("Meet(%v, %v) = %t", a, b, got)
			}
		}
	}
}

// The chapter's words hold where a Lo is greater than its Hi, too.
func TestMeetOfAnyRects(t *testing.T) {
	for _, a := range grid(true) {
		for _, b := range grid(true) {
			want := a.Lo.X <= b.Hi.X && b.Lo.X <= a.Hi.X && a.Lo.Y <= b.Hi.Y && b.Lo.Y <= a.Hi.Y
			if got := box.Meet(a, b); got != want {
				t.Errorf("Meet(%v, %v) = %t", a, b, got)
			}
		}
	}
}

func TestMeetAtTheEndsOfTheRange(t *testing.T) {
	l := extremes()
	for _, a := range l {
		for _, b := range l {
			for _, c := range l {
				for _, d := range l {
					want := atMost(a, d) && atMost(c, b)
					checkMeet(t, "the ends", rect(a, -1, b, 1), rect(c, 0, d, 2), want)
				}
			}
		}
	}
}

func TestHolds(t *testing.T) {
	a := wholes(-2, -1, 4, 3)
	const u = api.One
	for _, c := range []struct {
		what string
		p    api.V
		want bool
	}{
		{"within", whole(1, 1), true},
		{"on the left side", whole(-2, 1), true},
		{"on the right side", whole(4, 1), true},
		{"on the lower side", whole(1, -1), true},
		{"on the upper side", whole(1, 3), true},
		{"the lower left corner", whole(-2, -1), true},
		{"the lower right corner", whole(4, -1), true},
		{"the upper left corner", whole(-2, 3), true},
		{"the upper right corner", whole(4, 3), true},
		{"a unit to the left", api.V{X: -2*u - 1, Y: u}, false},
		{"a unit to the right", api.V{X: 4*u + 1, Y: u}, false},
		{"a unit below", api.V{X: u, Y: -u - 1}, false},
		{"a unit above", api.V{X: u, Y: 3*u + 1}, false},
		{"a unit within, left", api.V{X: -2*u + 1, Y: u}, true},
		{"a unit within, right", api.V{X: 4*u - 1, Y: u}, true},
		{"a unit within, below", api.V{X: u, Y: -u + 1}, true},
		{"a unit within, above", api.V{X: u, Y: 3*u - 1}, true},
		{"a unit left of a corner", api.V{X: -2*u - 1, Y: -u}, false},
		{"a unit below a corner", api.V{X: -2 * u, Y: -u - 1}, false},
		{"a unit right of a corner", api.V{X: 4*u + 1, Y: 3 * u}, false},
		{"a unit above a corner", api.V{X: 4 * u, Y: 3*u + 1}, false},
		{"beyond in both", whole(5, 4), false},
		{"far to the left", api.V{X: api.Least}, false},
		{"far to the right", api.V{X: api.Most}, false},
		{"far below", api.V{Y: lowest}, false},
		{"far above", api.V{Y: api.Most}, false},
	} {
		if got := box.Holds(a, c.p); got != c.want {
			t.Errorf("%s: Holds(%v, %v) = %t", c.what, a, c.p, got)
		}
		if got := box.Holds(flipped(a), api.V{X: c.p.Y, Y: c.p.X}); got != c.want {
			t.Errorf("%s, with the components exchanged: %t", c.what, got)
		}
	}
}

// A rectangle whose Lo is greater than its Hi holds nothing.
func TestHoldsOfAnyRects(t *testing.T) {
	for _, a := range grid(true) {
		for _, p := range points() {
			want := a.Lo.X <= p.X && p.X <= a.Hi.X && a.Lo.Y <= p.Y && p.Y <= a.Hi.Y
			if got := box.Holds(a, p); got != want {
				t.Errorf("Holds(%v, %v) = %t", a, p, got)
			}
		}
	}
}

func TestHoldsAtTheEndsOfTheRange(t *testing.T) {
	l := extremes()
	for _, low := range l {
		for _, high := range l {
			for _, p := range l {
				want := atMost(low, p) && atMost(p, high)
				if got := box.Holds(rect(low, -1, high, 1), api.V{X: p}); got != want {
					t.Errorf("in X, from %d to %d Holds(%d) = %t", low, high, p, got)
				}
				if got := box.Holds(rect(-1, low, 1, high), api.V{Y: p}); got != want {
					t.Errorf("in Y, from %d to %d Holds(%d) = %t", low, high, p, got)
				}
			}
		}
	}
}

func checkJoin(t *testing.T, what string, a, b, want box.Rect) {
	t.Helper()
	for _, pair := range [][2]box.Rect{{a, b}, {b, a}} {
		if got := box.Join(pair[0], pair[1]); counted(got) != counted(want) {
			t.Errorf("%s: Join(%v, %v) = %v, want %v", what, pair[0], pair[1], got, want)
		}
		if got := box.Join(flipped(pair[0]), flipped(pair[1])); counted(got) != counted(flipped(want)) {
			t.Errorf("%s, with the components exchanged: %v", what, got)
		}
	}
}

func TestJoin(t *testing.T) {
	a := wholes(-2, -1, 4, 3)
	for _, c := range []struct {
		what    string
		b, want box.Rect
	}{
		{"with itself", a, a},
		{"with one that lies in it", wholes(0, 0, 1, 1), a},
		{"with one that it lies in", wholes(-3, -4, 5, 6), wholes(-3, -4, 5, 6)},
		{"with one across", wholes(0, -9, 1, 9), wholes(-2, -9, 4, 9)},
		{"with one over a corner", wholes(3, 2, 7, 8), wholes(-2, -1, 7, 8)},
		{"with one apart, to the right", wholes(10, 0, 11, 1), wholes(-2, -1, 11, 3)},
		{"with one apart, to the left", wholes(-11, 0, -10, 1), wholes(-11, -1, 4, 3)},
		{"with one apart, above", wholes(0, 10, 1, 12), wholes(-2, -1, 4, 12)},
		{"with one apart, below", wholes(0, -12, 1, -10), wholes(-2, -12, 4, 3)},
		{"with one apart in both", wholes(100, 200, 101, 202), wholes(-2, -1, 101, 202)},
		{"with a point", wholes(-7, 8, -7, 8), wholes(-7, -1, 4, 8)},
		{"with a point within", wholes(1, 1, 1, 1), a},
		{"with all", rect(api.Least, lowest, api.Most, api.Most), rect(api.Least, api.Least, api.Most, api.Most)},
	} {
		checkJoin(t, c.what, a, c.b, c.want)
	}
}

// The chapter's words, also where a Lo is greater than its Hi.
func TestJoinOfAnyRects(t *testing.T) {
	for _, a := range grid(true) {
		for _, b := range grid(true) {
			want := rect(min(a.Lo.X, b.Lo.X), min(a.Lo.Y, b.Lo.Y), max(a.Hi.X, b.Hi.X), max(a.Hi.Y, b.Hi.Y))
			if got := box.Join(a, b); got != want {
				t.Errorf("Join(%v, %v) = %v, want %v", a, b, got, want)
			}
		}
	}
}

// It holds what one of both holds, and no lesser one does.
func TestJoinIsTheLeast(t *testing.T) {
	for _, a := range grid(false) {
		for _, b := range grid(false) {
			corners := []api.V{a.Lo, a.Hi, b.Lo, b.Hi}
			holds := func(one box.Rect) bool {
				return !slices.ContainsFunc(corners, func(p api.V) bool { return !box.Holds(one, p) })
			}
			joined := box.Join(a, b)
			if !holds(joined) || slices.ContainsFunc(sides(joined), holds) {
				t.Errorf("Join(%v, %v) = %v", a, b, joined)
			}
		}
	}
}

func TestJoinAtTheEndsOfTheRange(t *testing.T) {
	l := extremes()
	for _, a := range l {
		for _, b := range l {
			for _, c := range l {
				for _, d := range l {
					checkJoin(t, "the ends", rect(a, -1, b, 1), rect(c, 0, d, 2), rect(min(a, c), -1, max(b, d), 2))
				}
			}
		}
	}
}

func TestGrow(t *testing.T) {
	a := wholes(-2, -1, 4, 3)
	const most, least = api.Most, api.Least
	for _, c := range []struct {
		what string
		a    box.Rect
		by   api.F
		want box.Rect
	}{
		{"by 0", a, 0, a},
		{"by 1", a, api.One, wholes(-3, -2, 5, 4)},
		{"by 10", a, 10 * api.One, wholes(-12, -11, 14, 13)},
		{"by a unit", a, 1, rect(-2*api.One-1, -api.One-1, 4*api.One+1, 3*api.One+1)},
		{"by -1", a, -api.One, wholes(-1, 0, 3, 2)},
		{"by -1 unit", a, -1, rect(-2*api.One+1, -api.One+1, 4*api.One-1, 3*api.One-1)},
		{"to a line", a, -2 * api.One, wholes(0, 1, 2, 1)},
		{"to less than nothing", a, -5 * api.One, wholes(3, 4, -1, -2)},
		{"a point", wholes(7, -8, 7, -8), 2 * api.One, wholes(5, -10, 9, -6)},
		{"where Lo is greater than Hi", wholes(5, 5, 1, 1), api.One, wholes(4, 4, 2, 2)},
		{"by Most", a, most, rect(least, least, most, most)},
		{"by Least", a, least, rect(most-2*api.One, most-api.One, least+4*api.One, least+3*api.One)},
		{"by -2^63", a, lowest, rect(most-2*api.One, most-api.One, least+4*api.One, least+3*api.One)},
		{"all there is", rect(least, least, most, most), 1, rect(least, least, most, most)},
		{"all there is, by -1 unit", rect(least, least, most, most), -1, rect(least+1, least+1, most-1, most-1)},
		{"all there is, by 0", rect(least, least, most, most), 0, rect(least, least, most, most)},
		{"at -2^63", rect(lowest, lowest, lowest, lowest), 1, rect(least, least, least+1, least+1)},
		{"near the ends", rect(least+1, least+2, most-2, most-1), 2, rect(least, least, most, most)},
	} {
		if got := box.Grow(c.a, c.by); got != c.want {
			t.Errorf("%s: Grow(%v, %d) = %v, want %v", c.what, c.a, c.by, got, c.want)
		}
	}
}

// sum returns a + sign * by, saturated, where -2^63 counts as Least.
func sum(a api.F, sign int64, by api.F) api.F {
	n := new(big.Int).Mul(big.NewInt(sign), big.NewInt(int64(max(by, api.Least))))
	n.Add(n, big.NewInt(int64(max(a, api.Least))))
	most := big.NewInt(int64(api.Most))
	if n.CmpAbs(most) > 0 {
		return api.F(n.Sign()) * api.Most
	}
	return api.F(n.Int64())
}

// The chapter's words for any numbers, as no call here requires anything of a
// Rect.
func TestGrowOfAnyRects(t *testing.T) {
	next := noise()
	l := extremes()
	for n := range 200 {
		l = append(l, next(1+n%63))
	}
	for i, a := range l {
		for j, by := range l {
			b, c, d := l[(i+j)%len(l)], l[(3*i+j)%len(l)], l[(i+5*j)%len(l)]
			want := rect(sum(a, -1, by), sum(b, -1, by), sum(c, 1, by), sum(d, 1, by))
			if got := box.Grow(rect(a, b, c, d), by); got != want {
				t.Errorf("Grow(%v, %d) = %v, want %v", rect(a, b, c, d), by, got, want)
			}
		}
	}
}

// invalid returns shapes of which only P0 promises anything.
func invalid() []api.Shape {
	l := []api.Shape{
		{},
		{Kind: api.Poly, P: nil},
		{Kind: api.Poly, P: []api.V{}},
		{Kind: api.Circle, P: []api.V{}},
		{Kind: 3, R: api.Pi, P: three().P},
		{Kind: math.MinInt, R: lowest, P: []api.V{{}}},
		{Kind: math.MaxInt, R: api.Most},
		{Kind: api.Circle, R: api.One, P: three().P},
		{Kind: api.Poly, R: api.One, P: three().P},
		polygon(api.V{X: lowest, Y: lowest}),
		polygon(api.V{X: lowest, Y: api.Most}, api.V{X: api.Most, Y: lowest}),
		polygon(make([]api.V, 100000)...),
		polygon(whole(0, 0), whole(0, 3), whole(4, 0)),
	}
	for _, a := range extremes() {
		l = append(l, circle(a), shape.Box(a, api.One), shape.Box(api.One, a), api.Shape{Kind: -1, R: a})
		for _, b := range extremes() {
			l = append(l, shape.Box(a, b), polygon(api.V{X: a, Y: b}, api.V{X: b, Y: a}, api.V{X: a, Y: a}))
		}
	}
	return l
}

// TestAnyArguments is for P0: no call may panic, whatever it is given.
func TestAnyArguments(t *testing.T) {
	l := append(valid(t), invalid()...)
	for _, s := range l {
		for _, a := range extremes() {
			for _, b := range extremes() {
				if len(s.P) > 8 && a != b {
					continue
				}
				at := api.V{X: a, Y: b}
				one := box.Of(api.Body{Pos: at, Angle: a, Shape: s})
				other := rect(a, b, b, a)
				box.Meet(one, other)
				box.Join(one, other)
				box.Grow(one, a)
				box.Holds(one, at)
			}
		}
	}
}

// Without corners there is nothing to be held.
func TestOfNoCorners(t *testing.T) {
	for _, s := range []api.Shape{{}, polygon(), {Kind: api.Poly, P: []api.V{}}, {Kind: 7, R: api.One}} {
		checkOf(t, "no corners", api.Body{Pos: whole(3, 4), Angle: quarter, Shape: s}, box.Rect{})
	}
}
