package touch_test

import (
	"slices"
	"testing"

	"bagatelle/api"
	"bagatelle/fix"
	"bagatelle/shape"
	"bagatelle/touch"
	"bagatelle/turn"
	"bagatelle/vec"
)

const (
	// lowest is -2^63, which counts as Least.
	lowest  api.F = -1 << 63
	one           = api.One
	half          = one / 2
	quarter       = one / 4
	eighth        = one / 8
	// slant is a component of the normal of a side at an eighth of a turn: One
	// by the root of 2.
	slant api.F = 3037000500
)

func whole(x, y int) api.V {
	return api.V{X: fix.Of(x), Y: fix.Of(y)}
}

// eighths returns the place of so many eighths.
func eighths(x, y int) api.V {
	return api.V{X: fix.Part(x, 8), Y: fix.Part(y, 8)}
}

func circle(r api.F) api.Shape {
	return api.Shape{Kind: api.Circle, R: r}
}

func polygon(p ...api.V) api.Shape {
	return api.Shape{Kind: api.Poly, P: p}
}

func body(s api.Shape, at api.V) api.Body {
	return api.Body{Pos: at, Shape: s}
}

func turned(s api.Shape, at api.V, angle api.F) api.Body {
	return api.Body{Pos: at, Angle: angle, Shape: s}
}

// disc is a circle of radius 1, tile a square with sides of 2, and brick a
// rectangle, 4 wide and 2 high. The sides of both are the lower one, the right
// one, the upper one and the left one.
func disc() api.Shape  { return circle(one) }
func tile() api.Shape  { return shape.Box(one, one) }
func brick() api.Shape { return shape.Box(2*one, one) }

// diamond has corners below, to the right, above, and to the left.
func diamond(size int) api.Shape {
	return polygon(whole(0, -size), whole(size, 0), whole(0, size), whole(-size, 0))
}

// regular returns a polygon of n equal sides, each corner that far from 0, 0.
func regular(n int, size api.F) api.Shape {
	s := polygon()
	for i := range n {
		s.P = append(s.P, vec.Scale(vec.Apply(turn.Of(fix.Part(i, n)), whole(1, 0)), size))
	}
	return s
}

// from returns s with its corner i as the first one.
func from(s api.Shape, i int) api.Shape {
	return polygon(slices.Concat(s.P[i:], s.P[:i])...)
}

func point(at api.V, depth api.F, key int) touch.Point {
	return touch.Point{At: at, Depth: depth, Key: key}
}

func touching(normal api.V, l ...touch.Point) touch.Touch {
	return touch.Touch{Normal: normal, Points: l}
}

func apart() touch.Touch {
	return touch.Touch{}
}

func same(a, b touch.Touch) bool {
	return a.Normal == b.Normal && slices.Equal(a.Points, b.Points)
}

// other returns t with the normal of the opposite direction.
func other(t touch.Touch) touch.Touch {
	return touching(api.V{X: -t.Normal.X, Y: -t.Normal.Y}, t.Points...)
}

// checkOf checks that a and b touch like that, or don't if want has no points.
func checkOf(t *testing.T, what string, a, b api.Body, want touch.Touch) {
	t.Helper()
	got, ok := touch.Of(a, b)
	if ok != (len(want.Points) > 0) || !same(got, want) {
		t.Errorf("%s: Of(%+v, %+v) = %v, %t, want %v", what, a, b, got, ok, want)
	}
}

func checkGap(t *testing.T, what string, p, q []api.V, side int, gap api.F) {
	t.Helper()
	if i, got := touch.Gap(p, q); i != side || got != gap {
		t.Errorf("%s: Gap(%v, %v) = %d, %d, want %d, %d", what, p, q, i, got, side, gap)
	}
}

func checkValid(t *testing.T, l ...api.Shape) {
	t.Helper()
	for _, s := range l {
		if !shape.Right(s) {
			t.Fatalf("%v isn't valid", s)
		}
	}
}

func TestTypes(t *testing.T) {
	var at, normal api.V = whole(1, 2), whole(3, 4)
	var depth api.F = 5
	var key int = 6
	p := touch.Point{At: at, Depth: depth, Key: key}
	a := touch.Touch{Normal: normal, Points: []touch.Point{p}}
	if p != point(at, depth, key) || a.Normal != normal || len(a.Points) != 1 || a.Points[0] != p {
		t.Errorf("a Touch with %v and %v is %v", normal, p, a)
	}
}

func TestCircles(t *testing.T) {
	const (
		three, four = 2576980377, 3435973836 // 3/5 and 4/5, rounded toward 0
		tiny        = 1<<16 - 1              // its square is rounded to 0
	)
	small := circle(shape.Small)
	for _, c := range []struct {
		what string
		a, b api.Body
		want touch.Touch
	}{
		{"the document's example", body(disc(), whole(0, 0)), body(disc(), whole(1, 0)), touching(whole(1, 0), point(eighths(4, 0), one, 0))},
		{"to the left", body(disc(), whole(0, 0)), body(disc(), whole(-1, 0)), touching(whole(-1, 0), point(eighths(-4, 0), one, 0))},
		{"above", body(disc(), whole(2, 3)), body(disc(), whole(2, 4)), touching(whole(0, 1), point(eighths(16, 28), one, 0))},
		{"below", body(disc(), whole(2, 3)), body(disc(), whole(2, 2)), touching(whole(0, -1), point(eighths(16, 20), one, 0))},
		{"of different R", body(circle(3*one), whole(0, 0)), body(disc(), whole(3, 0)), touching(whole(1, 0), point(eighths(20, 0), one, 0))},
		{"of different R, exchanged", body(disc(), whole(3, 0)), body(circle(3*one), whole(0, 0)), touching(whole(-1, 0), point(eighths(20, 0), one, 0))},
		{"at a slant", body(circle(2*one), whole(0, 0)), body(circle(4*one), whole(3, 4)), touching(api.V{X: three, Y: four}, point(api.V{X: 3865470565, Y: 5153960754}, one, 0))},
		{"at a slant, exchanged", body(circle(4*one), whole(3, 4)), body(circle(2*one), whole(0, 0)), touching(api.V{X: -three, Y: -four}, point(api.V{X: 3*one - 9019431319, Y: 4*one - 12025908426}, one, 0))},
		{"one in the other", body(circle(64*one), whole(0, 0)), body(disc(), whole(0, -2)), touching(whole(0, -1), point(eighths(0, -260), 63*one, 0))},
		{"the other in the one", body(disc(), whole(0, -2)), body(circle(64*one), whole(0, 0)), touching(whole(0, 1), point(eighths(0, -16-244), 63*one, 0))},
		{"at the same position", body(disc(), whole(5, 7)), body(disc(), whole(5, 7)), touching(whole(1, 0), point(whole(5, 7), 2*one, 0))},
		{"at the same position, the first one greater", body(circle(3*one), whole(5, 7)), body(disc(), whole(5, 7)), touching(whole(1, 0), point(whole(6, 7), 4*one, 0))},
		{"at the same position, the second one greater", body(disc(), whole(5, 7)), body(circle(3*one), whole(5, 7)), touching(whole(1, 0), point(whole(4, 7), 4*one, 0))},
		{"nearly at the same position", body(disc(), whole(0, 0)), body(disc(), api.V{X: -tiny, Y: tiny}), touching(whole(1, 0), point(whole(0, 0), 2*one, 0))},
		{"a little further", body(disc(), whole(0, 0)), body(disc(), api.V{X: -tiny - 1}), touching(whole(-1, 0), point(api.V{X: -half / (1 << 16)}, 2*one-tiny-1, 0))},
		{"exactly the sum of both R", body(disc(), whole(0, 0)), body(circle(2*one), whole(3, 0)), apart()},
		{"exactly the sum, at a slant", body(circle(2*one), whole(0, 0)), body(circle(3*one), whole(3, 4)), apart()},
		{"a unit less", body(circle(2*one), whole(0, 0)), body(circle(3*one+1), whole(3, 4)), touching(api.V{X: three, Y: four}, point(api.V{X: 2 * three, Y: 2 * four}, 1, 0))},
		{"a unit more", body(circle(2*one), whole(0, 0)), body(circle(3*one-1), whole(3, 4)), apart()},
		{"a depth of three units", body(disc(), whole(0, 0)), body(circle(one+3), whole(2, 0)), touching(whole(1, 0), point(api.V{X: one - 1}, 3, 0))},
		{"apart", body(disc(), whole(0, 0)), body(disc(), whole(0, 9)), apart()},
		{"the least ones", body(small, whole(0, 0)), body(small, api.V{Y: shape.Small}), touching(whole(0, 1), point(api.V{Y: shape.Small / 2}, shape.Small, 0))},
		{"the least ones, apart", body(small, whole(0, 0)), body(small, api.V{Y: 2 * shape.Small}), apart()},
		{"as far as bodies may be", body(disc(), api.V{X: api.Far - one, Y: -api.Far}), body(disc(), api.V{X: api.Far, Y: -api.Far}), touching(whole(1, 0), point(api.V{X: api.Far - half, Y: -api.Far}, one, 0))},
		{"as far from each other as they may be", body(disc(), api.V{X: api.Far, Y: -api.Far}), body(disc(), api.V{X: -api.Far, Y: api.Far}), apart()},
		{"from end to end of the range", body(disc(), api.V{X: lowest, Y: api.Least}), body(disc(), api.V{X: api.Most, Y: api.Most}), apart()},
		{"at -2^63 and at Least", body(disc(), api.V{X: lowest}), body(disc(), api.V{X: api.Least + one}), touching(whole(1, 0), point(api.V{X: api.Least + half}, one, 0))},
		{"at the end of the range", body(disc(), api.V{X: api.Most}), body(circle(one/2), api.V{X: api.Most}), touching(whole(1, 0), point(api.V{X: api.Most}, one+half, 0))},
	} {
		checkOf(t, c.what, c.a, c.b, c.want)
		c.a.Angle, c.b.Angle = quarter, eighth
		checkOf(t, c.what+", at other angles", c.a, c.b, c.want)
	}
}

// A circleCase is a circle beside a polygon at 0, 0, and how they touch if the
// polygon is the first one.
type circleCase struct {
	what string
	s    api.Shape
	r    api.F
	at   api.V
	want touch.Touch
}

func checkCases(t *testing.T, l []circleCase) {
	t.Helper()
	for _, c := range l {
		for _, far := range []api.V{whole(0, 0), whole(-300, 700), {X: api.Far - 8*one, Y: 7 - api.Far}} {
			want := touching(c.want.Normal)
			for _, p := range c.want.Points {
				want.Points = append(want.Points, point(vec.Add(p.At, far), p.Depth, p.Key))
			}
			a, b := body(c.s, far), body(circle(c.r), vec.Add(c.at, far))
			checkOf(t, c.what, a, b, want)
			checkOf(t, c.what+", the circle first", b, a, other(want))
			b.Angle = eighth
			checkOf(t, c.what+", the circle turned", a, b, want)
		}
	}
}

func TestPolygonAndCircleAtASide(t *testing.T) {
	right := touching(whole(1, 0), point(eighths(12, 0), half, 17))
	checkCases(t, []circleCase{
		{"to the right", brick(), one, eighths(20, 0), right},
		{"below", brick(), one, eighths(8, -12), touching(whole(0, -1), point(eighths(8, -4), half, 16))},
		{"above", brick(), one, eighths(8, 12), touching(whole(0, 1), point(eighths(8, 4), half, 18))},
		{"to the left", brick(), one, eighths(-20, 4), touching(whole(-1, 0), point(eighths(-12, 4), half, 19))},
		{"exactly R away", brick(), one, whole(3, 0), apart()},
		{"a unit less than R away", brick(), one, api.V{X: 3*one - 1}, touching(whole(1, 0), point(api.V{X: 2*one - 1}, 1, 17))},
		{"a unit more than R away", brick(), one, api.V{X: 3*one + 1}, apart()},
		{"far away", brick(), one, whole(9, 0), apart()},
		{"of another R", brick(), 3 * one, whole(4, 0), touching(whole(1, 0), point(whole(1, 0), one, 17))},
		{"at a slant", diamond(2), one, eighths(12, 12), touching(api.V{X: slant, Y: slant}, point(api.V{X: 12*eighth - slant, Y: 12*eighth - slant}, one-slant, 17))},
		{"with another first corner", from(brick(), 1), one, eighths(20, 0), touching(right.Normal, point(eighths(12, 0), half, 16))},
		{"with the last side", from(brick(), 2), one, eighths(20, 0), touching(right.Normal, point(eighths(12, 0), half, 19))},
	})
}

func TestPolygonAndCircleInside(t *testing.T) {
	lower := func(x int) touch.Touch { return touching(whole(0, -1), point(whole(x, 1), 2*one, 16)) }
	checkCases(t, []circleCase{
		{"in the middle: two equal gaps", brick(), one, whole(0, 0), lower(0)},
		{"three equal gaps", brick(), one, whole(1, 0), lower(1)},
		{"four equal gaps", tile(), one, whole(0, 0), lower(0)},
		{"equal gaps of the last and another side", brick(), one, eighths(-12, 4), touching(whole(0, 1), point(eighths(-12, -4), one+half, 18))},
		{"near the right side", brick(), one, eighths(14, 0), touching(whole(1, 0), point(eighths(6, 0), one+quarter, 17))},
		{"near the left side", brick(), one, eighths(-14, 0), touching(whole(-1, 0), point(eighths(-6, 0), one+quarter, 19))},
		{"near the upper side", brick(), one, eighths(0, 6), touching(whole(0, 1), point(eighths(0, -2), one+quarter, 18))},
		{"near a corner", brick(), one, eighths(15, 7), touching(whole(1, 0), point(eighths(7, 7), one+eighth, 17))},
		{"exactly on a side", brick(), one, whole(2, 0), touching(whole(1, 0), point(whole(1, 0), one, 17))},
		{"exactly on the last side", brick(), one, whole(-2, 0), touching(whole(-1, 0), point(whole(-1, 0), one, 19))},
		{"exactly at the first corner", brick(), one, whole(-2, -1), touching(whole(0, -1), point(whole(-2, 0), one, 16))},
		{"exactly at another corner", brick(), one, whole(2, 1), touching(whole(1, 0), point(whole(1, 1), one, 17))},
		{"a circle that the polygon lies in", brick(), 9 * one, whole(1, 0), touching(whole(0, -1), point(whole(1, 9), 10*one, 16))},
		{"a small circle", brick(), shape.Small, whole(1, 0), touching(whole(0, -1), point(api.V{X: one, Y: shape.Small}, one+shape.Small, 16))},
	})
}

func TestPolygonAndCircleAtACorner(t *testing.T) {
	const (
		three, four = 2576980377, 3435973836 // 3/5 and 4/5, rounded toward 0
		u           = 1
		fifth       = 5 * eighth
	)
	flat := shape.Box(2*one, quarter)
	checkCases(t, []circleCase{
		{"beyond the first corner", brick(), one, eighths(19, 12), touching(api.V{X: three, Y: four}, point(whole(2, 1), 3*eighth, 4))},
		{"beyond the second corner", brick(), one, eighths(20, 11), touching(api.V{X: four, Y: three}, point(whole(2, 1), 3*eighth, 3))},
		{"beyond the first corner of the last side", brick(), one, eighths(-20, 11), touching(api.V{X: -four, Y: three}, point(whole(-2, 1), 3*eighth, 6))},
		{"beyond the second corner of the last side", brick(), one, eighths(-20, -11), touching(api.V{X: -four, Y: -three}, point(whole(-2, -1), 3*eighth, 7))},
		{"beyond the first corner of the first side", brick(), one, eighths(-19, -12), touching(api.V{X: -three, Y: -four}, point(whole(-2, -1), 3*eighth, 0))},
		{"beyond the second corner of the first side", brick(), one, eighths(19, -12), touching(api.V{X: three, Y: -four}, point(whole(2, -1), 3*eighth, 1))},
		{"two sides of equal gap", brick(), one, eighths(20, 12), touching(api.V{X: slant, Y: slant}, point(whole(2, 1), one-slant+u, 3))},
		{"two sides of equal gap, the last and the first", brick(), one, eighths(-20, -12), touching(api.V{X: -slant, Y: -slant}, point(whole(-2, -1), one-slant+u, 0))},
		{"right beside the first corner", brick(), one, eighths(20, -8), touching(whole(1, 0), point(whole(2, -1), half, 2))},
		{"right beside the second corner", brick(), one, eighths(20, 8), touching(whole(1, 0), point(whole(2, 1), half, 3))},
		{"a unit along the side", brick(), one, api.V{X: 20 * eighth, Y: u - one}, touching(whole(1, 0), point(api.V{X: 12 * eighth, Y: u - one}, half, 17))},
		{"a unit before its end", brick(), one, api.V{X: 20 * eighth, Y: one - u}, touching(whole(1, 0), point(api.V{X: 12 * eighth, Y: one - u}, half, 17))},
		{"a unit along a short side, which is rounded to nothing", flat, one, api.V{X: 20 * eighth, Y: u - quarter}, touching(api.V{X: one, Y: 2 * u}, point(api.V{X: 2 * one, Y: -quarter}, half, 2))},
		{"a unit before its end, which is rounded to nothing", flat, one, api.V{X: 20 * eighth, Y: quarter - u}, touching(api.V{X: one, Y: -2 * u}, point(api.V{X: 2 * one, Y: quarter}, half, 3))},
		{"two units along a short side", flat, one, api.V{X: 20 * eighth, Y: 2*u - quarter}, touching(whole(1, 0), point(api.V{X: 12 * eighth, Y: 2*u - quarter}, half, 17))},
		{"a unit beyond a corner: the normal of the side", brick(), one, api.V{X: 2*one + u, Y: one}, touching(whole(1, 0), point(whole(2, 1), one, 3))},
		{"a unit beyond in both", brick(), one, api.V{X: 2*one + u, Y: one + u}, touching(whole(1, 0), point(whole(2, 1), one, 3))},
		{"a unit above the first corner", brick(), one, api.V{X: 2*one + u, Y: one + 2*u}, touching(whole(0, 1), point(whole(2, 1), one, 4))},
		{"exactly R from the corner", brick(), fifth, eighths(20, 11), apart()},
		{"a unit less than R", brick(), fifth + u, eighths(20, 11), touching(api.V{X: four, Y: three}, point(whole(2, 1), u, 3))},
		{"a unit more than R", brick(), fifth - u, eighths(20, 11), apart()},
		{"exactly R from the first corner", brick(), fifth, eighths(19, 12), apart()},
		{"less than R from the side, but not from the corner", brick(), one, eighths(22, 14), apart()},
		{"R from the side", brick(), one, eighths(24, 9), apart()},
		{"far away", brick(), one, whole(9, 9), apart()},
	})
}

func TestPolygonsAndCirclesTurned(t *testing.T) {
	// A brick at a quarter is 2 wide and 4 high; its lower side is then the right
	// one.
	at := whole(10, 20)
	for _, c := range []struct {
		what  string
		angle api.F
		b     api.V
		want  touch.Touch
	}{
		{"a quarter, above", quarter, eighths(80, 180), touching(whole(0, 1), point(eighths(80, 172), half, 17))},
		{"a quarter, to the right", quarter, eighths(92, 160), touching(whole(1, 0), point(eighths(84, 160), half, 16))},
		{"a half, to the left", half, eighths(60, 160), touching(whole(-1, 0), point(eighths(68, 160), half, 17))},
		{"three quarters, below", -quarter, eighths(80, 140), touching(whole(0, -1), point(eighths(80, 148), half, 17))},
		{"a turn and less than a step", one + 1<<22 - 1, eighths(100, 160), touching(whole(1, 0), point(eighths(92, 160), half, 17))},
		{"a quarter, too far to the right", quarter, eighths(100, 160), apart()},
		{"a quarter, at a corner", quarter, eighths(92, 179), touching(api.V{X: 3435973836, Y: 2576980377}, point(whole(11, 22), 3*eighth, 1))},
	} {
		a, b := turned(brick(), at, c.angle), body(disc(), c.b)
		checkOf(t, c.what, a, b, c.want)
		checkOf(t, c.what+", the circle first", b, a, other(c.want))
	}
}

// Each end of the incident edge stays, or is moved by one of both clippings.
// All of them touch the right side of a tile.
func TestPolygonsAtTheFirstOnesSide(t *testing.T) {
	right := func(l ...touch.Point) touch.Touch { return touching(whole(1, 0), l...) }
	// Its left corner lies in the tile; the sides beside it end on the line of
	// the tile's side.
	kite := polygon(eighths(6, 0), eighths(8, -4), whole(3, 0), eighths(8, 4))
	for _, c := range []struct {
		what string
		b    api.Body
		want touch.Touch
	}{
		{"none is moved", body(tile(), eighths(12, 0)), right(point(eighths(4, 8), half, 34), point(eighths(4, -8), half, 35))},
		{"none is moved, of a short edge", body(shape.Box(one, half), eighths(12, 2)), right(point(eighths(4, 6), half, 34), point(eighths(4, -2), half, 35))},
		{"the second clipping moves the first end", body(tile(), eighths(12, 4)), right(point(eighths(4, 8), half, 34), point(eighths(4, -4), half, 35))},
		{"the first clipping moves the second end", body(tile(), eighths(12, -4)), right(point(eighths(4, 4), half, 34), point(eighths(4, -8), half, 35))},
		{"both are moved, the first one by a third, which is rounded", body(shape.Box(one, 2*one), eighths(12, 0)), right(point(api.V{X: half, Y: one + 1}, half, 34), point(eighths(4, -8), half, 35))},
		{"the first end is moved on a slant", body(polygon(eighths(6, 0), whole(3, 0), eighths(10, 32)), whole(0, 0)), right(point(eighths(7, 8), eighth, 34), point(eighths(6, 0), quarter, 35))},
		{"the second end is moved on a slant", body(polygon(eighths(6, 0), eighths(10, -32), whole(3, 0)), whole(0, 0)), right(point(eighths(6, 0), quarter, 34), point(eighths(7, -8), eighth, 35))},
		{"a corner is the second end", body(diamond(1), eighths(14, 0)), right(point(eighths(6, 0), quarter, 35))},
		{"a corner is the first end", body(from(diamond(1), 3), eighths(14, 0)), right(point(eighths(6, 0), quarter, 34))},
		{"the second end has the depth 0", body(kite, whole(0, 0)), right(point(eighths(6, 0), quarter, 34))},
		{"the first end has the depth 0", body(from(kite, 3), whole(0, 0)), right(point(eighths(6, 0), quarter, 35))},
		{"exactly side to side", body(tile(), whole(2, 0)), apart()},
		{"side to side, moved along", body(tile(), whole(2, 1)), apart()},
		{"a unit less", body(tile(), api.V{X: 2*one - 1}), right(point(api.V{X: one - 1, Y: one}, 1, 34), point(api.V{X: one - 1, Y: -one}, 1, 35))},
		{"a unit more", body(tile(), api.V{X: 2*one + 1}), apart()},
		{"apart to the right", body(tile(), whole(5, 0)), apart()},
		{"apart to the left", body(tile(), whole(-5, 0)), apart()},
		{"apart above", body(tile(), whole(0, 5)), apart()},
		{"apart below", body(tile(), whole(0, -5)), apart()},
		{"apart in both", body(tile(), whole(5, 5)), apart()},
		{"corner to corner", body(tile(), whole(2, 2)), apart()},
		{"corner to corner of a diamond", body(diamond(1), whole(2, 0)), apart()},
		{"apart where only a slant tells it", body(diamond(2), api.V{X: 2*one + 1, Y: 2 * one}), apart()},
		{"exactly a corner on a slant", body(diamond(2), whole(2, 2)), apart()},
	} {
		checkValid(t, c.b.Shape)
		checkOf(t, c.what, body(tile(), whole(0, 0)), c.b, c.want)
		// The same, turned by a half, and far away.
		far := api.V{X: -api.Far, Y: api.Far - one}
		c.b.Pos, c.b.Angle = vec.Sub(far, c.b.Pos), half
		for i, p := range c.want.Points {
			c.want.Points[i].At = vec.Sub(far, p.At)
		}
		checkOf(t, c.what+", turned by a half", turned(tile(), far, half), c.b, other(c.want))
	}
}

func TestPolygonsAtEitherSide(t *testing.T) {
	great := shape.Box(4*one, 4*one)
	for _, c := range []struct {
		what string
		a, b api.Body
		want touch.Touch
	}{
		{"equal gaps: the first one's side", body(tile(), whole(0, 0)), body(brick(), eighths(20, 0)), touching(whole(1, 0), point(eighths(4, 8), half, 34), point(eighths(4, -8), half, 35))},
		{"equal gaps, exchanged", body(brick(), eighths(20, 0)), body(tile(), whole(0, 0)), touching(whole(-1, 0), point(eighths(8, -8), half, 38), point(eighths(8, 8), half, 39))},
		{"the second one's gap is greater", body(diamond(1), whole(0, 0)), body(tile(), eighths(14, 0)), touching(whole(1, 0), point(whole(1, 0), quarter, 71))},
		{"the second one's gap is greater, the first end", body(from(diamond(1), 1), whole(0, 0)), body(tile(), eighths(14, 0)), touching(whole(1, 0), point(whole(1, 0), quarter, 70))},
		{"the first one's gap is greater", body(tile(), eighths(14, 0)), body(diamond(1), whole(0, 0)), touching(whole(-1, 0), point(whole(1, 0), quarter, 39))},
		{"a corner in a slanted side of the second one", body(tile(), whole(0, 0)), body(diamond(2), eighths(14, 14)), touching(api.V{X: slant, Y: slant}, point(whole(1, 1), slant/2, 71))},
		{"a corner in a slanted side of the first one", body(diamond(2), eighths(14, 14)), body(tile(), whole(0, 0)), touching(api.V{X: -slant, Y: -slant}, point(whole(1, 1), slant/2, 39))},
		{"one lies in the other, near a side", body(great, whole(0, 0)), body(tile(), whole(2, 0)), touching(whole(1, 0), point(whole(1, 1), 3*one, 34), point(whole(1, -1), 3*one, 35))},
		{"one lies in the other, in the middle", body(great, whole(0, 0)), body(tile(), whole(0, 0)), touching(whole(0, -1), point(whole(1, 1), 5*one, 32), point(whole(-1, 1), 5*one, 33))},
		{"the other lies in the one", body(tile(), whole(2, 0)), body(great, whole(0, 0)), touching(whole(-1, 0), point(api.V{X: 4 * one, Y: -one - 3}, 3*one, 38), point(eighths(32, 8), 3*one, 39))},
		{"the same two", body(tile(), whole(3, 3)), body(tile(), whole(3, 3)), touching(whole(0, -1), point(whole(4, 4), 2*one, 32), point(whole(2, 4), 2*one, 33))},
		{"two that cross", body(shape.Box(4*one, one), whole(0, 0)), body(shape.Box(one, 4*one), whole(2, 0)), touching(whole(1, 0), point(api.V{X: one, Y: one + 3}, 3*one, 34), point(whole(1, -1), 3*one, 35))},
		{"at the upper side", body(tile(), whole(0, 0)), body(tile(), eighths(0, 12)), touching(whole(0, 1), point(eighths(-8, 4), half, 36), point(eighths(8, 4), half, 37))},
		{"at the left side", body(tile(), whole(0, 0)), body(tile(), eighths(-12, 0)), touching(whole(-1, 0), point(eighths(-4, -8), half, 38), point(eighths(-4, 8), half, 39))},
		{"at a side turned by a quarter", turned(tile(), whole(0, 0), quarter), body(tile(), eighths(12, 0)), touching(whole(1, 0), point(eighths(4, 8), half, 32), point(eighths(4, -8), half, 33))},
		{"with a diamond made of a turned tile", body(shape.Box(2*one, 2*one), whole(0, 0)), turned(tile(), whole(3, 0), eighth), touching(whole(1, 0), point(api.V{X: 3*one - 2*3037000500, Y: 0}, 2*3037000500-one, 35))},
	} {
		checkValid(t, c.a.Shape, c.b.Shape)
		checkOf(t, c.what, c.a, c.b, c.want)
	}
}

// Of two sides that face the reference side equally, the first one is the
// incident edge.
func TestTheFirstIncidentEdge(t *testing.T) {
	for i, want := range []touch.Point{
		point(eighths(6, 0), quarter, 35), point(eighths(6, 0), quarter, 35), point(eighths(6, 0), quarter, 35), point(eighths(6, 0), quarter, 34),
	} {
		checkOf(t, "a diamond", body(tile(), whole(0, 0)), body(from(diamond(1), i), eighths(14, 0)), touching(whole(1, 0), want))
	}
}

// Of polygons of some thousandths of a thousandth, the Len of sides is rounded
// so much that the gap that is told as the greatest isn't, and nothing of the
// incident edge may lie beside the reference side.
func TestPolygonsWhoseEdgeIsCutAway(t *testing.T) {
	at := func(x, y api.F) api.V { return api.V{X: x, Y: y} }
	for _, c := range []struct {
		what string
		a, b api.Shape
		at   api.V
	}{
		{"before the first corner of the first one's side", polygon(at(-53134, 97745), at(-118525, 24094), at(-117458, -107505)), polygon(at(12875, 26341), at(-36231, 114241), at(45445, -129841)), at(-113093, 113087)},
		{"behind its second corner", polygon(at(75688, -14818), at(41019, 123585), at(-94728, 111407), at(-124250, -70202)), polygon(at(-34601, -60718), at(124229, -107034), at(13033, -13446), at(-109305, -20454)), at(-102774, 114141)},
		{"before the first corner of the second one's side", polygon(at(-113011, 124748), at(-81036, 19990), at(52275, -37218)), polygon(at(15464, 67083), at(-109055, -107029), at(-21743, -53471), at(125242, 117693)), at(-25971, 122464)},
		{"behind its second corner", polygon(at(54399, 115819), at(-46737, -105538), at(11881, -17478)), polygon(at(-20779, 75176), at(-59949, -102210), at(101388, -44829)), at(89757, 111637)},
		{"both ends beyond the first one's side", polygon(at(-75211, -232632), at(146334, -6073), at(-252168, -222006)), polygon(at(164129, 8053), at(-191874, 189621), at(-107333, 128720)), at(-134887, -161530)},
		{"both ends beyond the second one's side", polygon(at(-247662, 129712), at(247411, 172887), at(-125635, 150052)), polygon(at(206680, 154545), at(-254550, 53903), at(117958, -55262)), at(128099, 144982)},
	} {
		checkValid(t, c.a, c.b)
		a, b := body(c.a, whole(0, 0)), body(c.b, c.at)
		p, q := shape.Corners(a.Shape, a.Pos, 0), shape.Corners(b.Shape, b.Pos, 0)
		_, first := touch.Gap(p, q)
		if _, second := touch.Gap(q, p); first >= 0 || second >= 0 {
			t.Errorf("%s: the gaps are %d and %d", c.what, first, second)
		}
		checkOf(t, c.what, a, b, apart())
	}
}

// A gap of 0 is enough, though the end that is clipped is rounded to a depth of
// a unit here.
func TestPolygonsSideToSideOnASlant(t *testing.T) {
	at := func(x, y api.F) api.V { return api.V{X: x, Y: y} }
	for _, c := range []struct {
		what          string
		a, b          api.Shape
		at            api.V
		first, second api.F
	}{
		{"the first one's gap is 0", polygon(at(0, 0), at(1073741824, -1610612736), at(4831838208, -3758096384)), polygon(at(0, 0), at(-4294967296, 6442450944), at(536870912, -3758096384)), at(3221225471, -4831838206), 0, -1},
		{"the second one's gap is 0", polygon(at(0, 0), at(8589934592, 6442450944), at(-6442450944, -1610612736)), polygon(at(0, 0), at(-2147483648, -1610612736), at(-1073741824, -2684354560)), at(4294967298, 3221225474), -1, 0},
	} {
		checkValid(t, c.a, c.b)
		a, b := body(c.a, whole(0, 0)), body(c.b, c.at)
		p, q := shape.Corners(a.Shape, a.Pos, 0), shape.Corners(b.Shape, b.Pos, 0)
		checkGap(t, c.what, p, q, 0, c.first)
		checkGap(t, c.what+", exchanged", q, p, 0, c.second)
		checkOf(t, c.what, a, b, apart())
		checkOf(t, c.what+", exchanged", b, a, apart())
	}
}

// In a splinter as thin as this all sides are upright by their rounded normals,
// so that none of them faces an upper or a lower side, and the first one is the
// incident edge, whichever way it goes.
func TestSplinters(t *testing.T) {
	const up = 65*one - 10
	at := func(x, y api.F) api.V { return api.V{X: x, Y: y} }
	foot := polygon(at(0, -64*one), at(-16, 0), at(-64, 64*one))
	mirrored := polygon(at(16, 0), at(0, -64*one), at(64, 64*one))
	for _, c := range []struct {
		what string
		s    api.Shape
		at   api.V
		want touch.Touch
	}{
		{"the first end stays", foot, at(one-8, up), touching(whole(0, 1), point(at(one-8, one-10), 10, 36))},
		{"the first end stays exactly at the corner", foot, at(one, up), touching(whole(0, 1), point(at(one, one-10), 10, 36))},
		{"the first clipping moves the first end, out of the tile", foot, at(one+8, up), apart()},
		{"the first clipping cuts both ends away", foot, at(one+17, up), apart()},
		{"the second end stays", mirrored, at(8-one, 65*one-4), touching(whole(0, 1), point(at(8-one, one-4), 4, 37))},
		{"the first clipping moves the second end onto the first one", polygon(at(0, -64*one), at(16, 0), at(-64, 64*one)), at(one, up), touching(whole(0, 1), point(at(one, one-10), 10, 36), point(at(one, one-10), 10, 37))},
		{"another side is the first one", from(foot, 1), at(one-8, up), apart()},
	} {
		checkValid(t, c.s)
		checkOf(t, c.what, body(tile(), whole(0, 0)), body(c.s, c.at), c.want)
	}
}

// A side shorter than 2^-16 has no direction, and so a gap of 0 to everything.
// The words of each call lead to touches apart from each other here.
func TestSidesWithoutADirection(t *testing.T) {
	s := polygon(whole(0, 0), whole(64, 0), api.V{X: 64 * one, Y: 1})
	checkValid(t, s)
	p := shape.Corners(s, whole(0, 0), 0)
	checkGap(t, "in it", p, []api.V{whole(1, -1), whole(1, 1)}, 1, 0)
	checkGap(t, "beside it", p, []api.V{whole(100, 0)}, 0, 0)
	checkOf(t, "a circle apart", body(s, whole(0, 0)), body(disc(), whole(100, 0)), touching(whole(0, -1), point(whole(100, 1), one, 16)))
	checkOf(t, "a polygon on it", body(s, whole(0, 0)), body(tile(), whole(9, 0)), apart())
	checkOf(t, "a polygon under it", body(tile(), whole(9, 0)), body(s, whole(0, 0)), apart())
}

func TestGap(t *testing.T) {
	corners := func(s api.Shape) []api.V { return s.P }
	line := []api.V{whole(-1, 0), whole(1, 0)}
	for _, c := range []struct {
		what string
		p, q []api.V
		side int
		gap  api.F
	}{
		{"a point to the right", corners(tile()), []api.V{whole(3, 0)}, 1, 2 * one},
		{"a point below", corners(tile()), []api.V{eighths(0, -9)}, 0, eighth},
		{"a point above", corners(tile()), []api.V{whole(-7, 9)}, 2, 8 * one},
		{"a point to the left", corners(tile()), []api.V{whole(-9, 7)}, 3, 8 * one},
		{"a point inside", corners(brick()), []api.V{eighths(14, 0)}, 1, -quarter},
		{"equal gaps", corners(tile()), []api.V{whole(0, 0)}, 0, -one},
		{"equal gaps of two", corners(tile()), []api.V{whole(2, 2)}, 1, one},
		{"equal gaps of the first and the last", corners(tile()), []api.V{whole(-2, -2)}, 0, one},
		{"equal gaps of the last two", corners(tile()), []api.V{whole(-2, 2)}, 2, one},
		{"a point on a side", corners(tile()), []api.V{whole(1, 0)}, 1, 0},
		{"a point at a corner", corners(tile()), []api.V{whole(-1, 1)}, 2, 0},
		{"a point on a slant", corners(diamond(2)), []api.V{whole(2, 2)}, 1, 2 * slant},
		{"the least of two points", corners(tile()), []api.V{whole(4, 0), whole(2, 0)}, 1, one},
		{"the least of two, the other way round", corners(tile()), []api.V{whole(2, 0), whole(4, 0)}, 1, one},
		{"points on both sides", corners(tile()), []api.V{whole(3, 0), whole(-4, 0)}, 0, -one},
		{"another polygon", corners(tile()), shape.Corners(brick(), whole(5, 0), 0), 1, 2 * one},
		{"another polygon, exchanged", shape.Corners(brick(), whole(5, 0), 0), corners(tile()), 3, 2 * one},
		{"another polygon around it", corners(tile()), corners(diamond(9)), 0, -10 * one},
		{"another polygon within it", corners(brick()), shape.Corners(diamond(1), eighths(12, 0), 0), 1, -one - half},
		{"corners the wrong way round", []api.V{whole(-1, -1), whole(-1, 1), whole(1, 1), whole(1, -1)}, []api.V{whole(9, 0)}, 0, 10 * one},
		{"a p with one corner", []api.V{whole(1, 1)}, []api.V{whole(3, 4)}, 0, 0},
		{"a p with two corners, above", line, []api.V{whole(9, 3)}, 1, 3 * one},
		{"a p with two corners, below", line, []api.V{whole(9, -3)}, 0, 3 * one},
		{"a p with two corners, beside", line, []api.V{whole(9, 0)}, 0, 0},
		{"a p with the same corner twice", []api.V{whole(1, 1), whole(1, 1)}, []api.V{whole(3, 4)}, 0, 0},
		{"both with one corner", []api.V{whole(1, 1)}, []api.V{whole(1, 1)}, 0, 0},
		{"both with two corners", line, []api.V{whole(0, -1), whole(0, 1)}, 0, -one},
		{"a nil p", nil, line, 0, 0},
		{"an empty p", []api.V{}, line, 0, 0},
		{"a nil q", line, nil, 0, 0},
		{"an empty q", corners(tile()), []api.V{}, 0, 0},
		{"both nil", nil, nil, 0, 0},
		{"both empty", []api.V{}, []api.V{}, 0, 0},
		{"a point at the ends of the range", corners(tile()), []api.V{{X: api.Most, Y: api.Least}}, 0, api.Most - one},
		{"a point at -2^63", corners(tile()), []api.V{{X: lowest, Y: lowest}}, 0, api.Most - one},
		{"a point at -2^63, beyond the last side", corners(tile()), []api.V{{X: lowest}}, 3, api.Most - one},
		{"points at all ends", corners(tile()), []api.V{{X: lowest, Y: lowest}, {X: api.Most, Y: api.Most}}, 0, api.Least},
	} {
		checkGap(t, c.what, c.p, c.q, c.side, c.gap)
	}
	for i := range 4 {
		checkGap(t, "from each corner on", from(tile(), i).P, []api.V{whole(3, 0)}, (5-i)%4, 2*one)
	}
}
