package shape_test

import (
	"math"
	"slices"
	"testing"

	"bagatelle/api"
	"bagatelle/fix"
	"bagatelle/shape"
	"bagatelle/turn"
	"bagatelle/vec"
)

const (
	// lowest is -2^63, which counts as Least.
	lowest  api.F = -1 << 63
	half          = api.One / 2
	quarter       = api.One / 4
	// longest is the root of Most, the greatest length.
	longest api.F = 199032864766430
)

func whole(x, y int) api.V {
	return api.V{X: fix.Of(x), Y: fix.Of(y)}
}

func polygon(p ...api.V) api.Shape {
	return api.Shape{Kind: api.Poly, P: p}
}

func circle(r api.F) api.Shape {
	return api.Shape{Kind: api.Circle, R: r}
}

// wholes returns the polygon of whole numbers, each corner X, Y.
func wholes(p ...[2]int) api.Shape {
	s := polygon()
	for _, c := range p {
		s.P = append(s.P, whole(c[0], c[1]))
	}
	return s
}

// regular returns the regular polygon of n corners, of that radius, nearly.
func regular(n int, r api.F) api.Shape {
	s := polygon()
	for i := range n {
		s.P = append(s.P, vec.Scale(turned(fix.Part(i, n)), r))
	}
	return s
}

func turned(angle api.F) api.V {
	return vec.Apply(turn.Of(angle), whole(1, 0))
}

// backwards returns the same corners in the opposite order.
func backwards(s api.Shape) api.Shape {
	s.P = slices.Clone(s.P)
	slices.Reverse(s.P)
	return s
}

// twice returns the same corners, gone through two times.
func twice(s api.Shape) api.Shape {
	s.P = slices.Concat(s.P, s.P)
	return s
}

// with returns s with its corner i moved.
func with(s api.Shape, i int, x, y api.F) api.Shape {
	s.P = slices.Clone(s.P)
	s.P[i] = api.V{X: x, Y: y}
	return s
}

func extremes() []api.F {
	return []api.F{lowest, api.Least, api.Least + 1, -1, 0, 1, api.Most - 1, api.Most}
}

// noise returns a function that returns numbers of all sizes, always the same.
func noise() func() api.F {
	state := uint64(88172645463325252)
	return func() api.F {
		state ^= state << 13
		state ^= state >> 7
		state ^= state << 17
		return api.F(state) >> (state % 61)
	}
}

// valid returns shapes that Right accepts.
func valid() []api.Shape {
	l := []api.Shape{
		circle(shape.Small), circle(api.One), circle(shape.Great),
		shape.Box(api.One, api.One), shape.Box(api.Pi, 1<<20), shape.Box(shape.Great, shape.Great),
		wholes([2]int{0, 0}, [2]int{1, 0}, [2]int{0, 1}),
		wholes([2]int{7, 3}, [2]int{9, 3}, [2]int{10, 6}, [2]int{8, 9}, [2]int{5, 4}),
	}
	for n := 3; n <= api.MaxCorners; n++ {
		l = append(l, regular(n, api.One), regular(n, shape.Great))
	}
	return l
}

// invalid returns shapes that Right rejects.
func invalid() []api.Shape {
	l := []api.Shape{
		{},
		{Kind: api.Poly, P: []api.V{}},
		{Kind: api.Circle, R: api.One, P: []api.V{whole(1, 2), {}}},
		{Kind: api.Poly, R: api.One, P: []api.V{whole(1, 2), whole(1, 2), whole(-3, 4)}},
		{Kind: 3, R: api.Pi, P: []api.V{whole(3, 4), whole(-5, 12)}},
		{Kind: math.MinInt, R: lowest},
		{Kind: math.MaxInt, R: api.Most, P: []api.V{{X: 1}}},
		polygon(api.V{X: lowest, Y: lowest}),
		polygon(api.V{X: api.Most, Y: lowest}, api.V{X: api.Least, Y: api.Most}),
		polygon(make([]api.V, 100)...),
	}
	for _, a := range extremes() {
		l = append(l, circle(a), polygon(api.V{X: a, Y: -1}, api.V{X: 7, Y: a}, api.V{X: a, Y: a}))
	}
	next := noise()
	for n := range 40 {
		s := api.Shape{Kind: n % 4, R: next()}
		for range n {
			s.P = append(s.P, api.V{X: next(), Y: next()})
		}
		l = append(l, s)
	}
	return l
}

func checkRight(t *testing.T, s api.Shape, want bool) {
	t.Helper()
	if got := shape.Right(s); got != want {
		t.Errorf("Right(%v) = %t, want %t", s, got, want)
	}
}

func TestConstants(t *testing.T) {
	if shape.Small != api.One/256 || shape.Great != fix.Of(64) {
		t.Errorf("Small %d, Great %d", shape.Small, shape.Great)
	}
}

func TestRightOfCircles(t *testing.T) {
	for _, c := range []struct {
		r    api.F
		want bool
	}{
		{api.One, true},
		{shape.Small, true},
		{shape.Small + 1, true},
		{shape.Small - 1, false},
		{shape.Great, true},
		{shape.Great - 1, true},
		{shape.Great + 1, false},
		{0, false},
		{1, false},
		{-api.One, false},
		{-shape.Great, false},
		{api.Most, false},
		{api.Least, false},
		{lowest, false},
	} {
		checkRight(t, circle(c.r), c.want)
		checkRight(t, api.Shape{Kind: api.Circle, R: c.r, P: []api.V{}}, c.want)
		checkRight(t, api.Shape{Kind: api.Circle, R: c.r, P: []api.V{{}}}, false)
		checkRight(t, api.Shape{Kind: api.Circle, R: c.r, P: shape.Box(api.One, api.One).P}, false)
	}
}

func TestRightOfKinds(t *testing.T) {
	for _, kind := range []int{0, -1, -2, 3, 4, 255, 257, 258, 1 << 32, 1<<32 + 1, 1<<32 + 2, math.MinInt, math.MaxInt} {
		checkRight(t, api.Shape{Kind: kind}, false)
		checkRight(t, api.Shape{Kind: kind, R: api.One}, false)
		checkRight(t, api.Shape{Kind: kind, P: shape.Box(api.One, api.One).P}, false)
	}
	checkRight(t, api.Shape{Kind: api.Poly, R: api.One}, false)
	checkRight(t, api.Shape{Kind: api.Circle, P: shape.Box(api.One, api.One).P}, false)
}

func TestRightOfPolygonsWithR(t *testing.T) {
	for _, r := range append(extremes(), shape.Small, api.One, shape.Great) {
		s := shape.Box(api.One, api.One)
		s.R = r
		checkRight(t, s, r == 0)
	}
}

// The regular polygons with too many corners are convex.
func TestRightByTheNumberOfCorners(t *testing.T) {
	for n := range 20 {
		checkRight(t, regular(n, api.One), n >= 3 && n <= 8)
		checkRight(t, regular(n, shape.Great), n >= 3 && n <= 8)
	}
	checkRight(t, polygon(), false)
	checkRight(t, api.Shape{Kind: api.Poly, P: []api.V{}}, false)
	checkRight(t, polygon(make([]api.V, 1000)...), false)
}

// The corner 0 of a box around 0, 0 may be moved outward without an end, but
// for the limit of its components; and so may the others.
func TestRightByTheSizeOfComponents(t *testing.T) {
	box := shape.Box(api.One, api.One)
	for _, c := range []struct {
		size api.F
		want bool
	}{
		{shape.Great - 1, true},
		{shape.Great, true},
		{shape.Great + 1, false},
		{1 << 40, false},
		{api.Most, false},
	} {
		for i, corner := range box.P {
			x, y := c.size, c.size
			if corner.X < 0 {
				x = -x
			}
			if corner.Y < 0 {
				y = -y
			}
			checkRight(t, with(box, i, x, y), c.want)
			// Only one of both.
			checkRight(t, with(box, i, x, corner.Y), c.want)
			checkRight(t, with(box, i, corner.X, y), c.want)
		}
	}
	checkRight(t, with(box, 0, lowest, -api.One), false)
	checkRight(t, with(box, 0, -api.One, lowest), false)
	checkRight(t, with(box, 0, lowest, lowest), false)
}

func TestRightByTheOrderOfCorners(t *testing.T) {
	for _, c := range []struct {
		what string
		s    api.Shape
		want bool
	}{
		{"a triangle", wholes([2]int{0, 0}, [2]int{4, 0}, [2]int{0, 3}), true},
		{"not around 0, 0", wholes([2]int{50, 60}, [2]int{54, 60}, [2]int{50, 63}), true},
		{"to the right", wholes([2]int{0, 0}, [2]int{0, 3}, [2]int{4, 0}), false},
		{"all the same", wholes([2]int{1, 1}, [2]int{1, 1}, [2]int{1, 1}), false},
		{"two the same", wholes([2]int{0, 0}, [2]int{4, 0}, [2]int{4, 0}, [2]int{0, 3}), false},
		{"the first and the last the same", wholes([2]int{0, 0}, [2]int{4, 0}, [2]int{0, 3}, [2]int{0, 0}), false},
		{"in a line", wholes([2]int{0, 0}, [2]int{1, 1}, [2]int{2, 2}), false},
		{"there and back", wholes([2]int{0, 0}, [2]int{2, 2}, [2]int{1, 1}), false},
		{"one on the first side", wholes([2]int{0, 0}, [2]int{2, 0}, [2]int{4, 0}, [2]int{0, 3}), false},
		{"one on a side in the middle", wholes([2]int{0, 0}, [2]int{4, 0}, [2]int{2, 2}, [2]int{0, 4}), false},
		{"one on the last side", wholes([2]int{0, 0}, [2]int{4, 0}, [2]int{0, 4}, [2]int{0, 2}), false},
		{"just outside of the last side", wholes([2]int{0, 0}, [2]int{4, 0}, [2]int{0, 4}, [2]int{-1, 2}), true},
		{"inside", wholes([2]int{0, 0}, [2]int{4, 0}, [2]int{1, 1}, [2]int{0, 4}), false},
		{"sides that cross", wholes([2]int{0, 0}, [2]int{4, 4}, [2]int{4, 0}, [2]int{0, 4}), false},
		{"a star", wholes([2]int{0, 10}, [2]int{-6, -8}, [2]int{10, 3}, [2]int{-10, 3}, [2]int{6, -8}), false},
		{"its corners in their order", wholes([2]int{0, 10}, [2]int{-10, 3}, [2]int{-6, -8}, [2]int{6, -8}, [2]int{10, 3}), true},
		{"a triangle twice", twice(regular(3, api.One)), false},
		{"a box twice", twice(shape.Box(api.One, api.One)), false},
		{"a box to the right", backwards(shape.Box(api.One, api.One)), false},
		{"eight corners to the right", backwards(regular(8, api.One)), false},
	} {
		if got := shape.Right(c.s); got != c.want {
			t.Errorf("%s: Right(%v) = %t, want %t", c.what, c.s, got, c.want)
		}
	}
}

// A spiral turns to the left at each corner, its last two too, but goes round
// more than once.
func TestRightOfTwiceRound(t *testing.T) {
	s := polygon()
	for i := range 7 {
		s.P = append(s.P, vec.Scale(turned(fix.Part(2*i, 7)), api.One))
	}
	for i, corner := range s.P {
		one, two := s.P[(i+1)%7], s.P[(i+2)%7]
		if vec.Cross(vec.Sub(one, corner), vec.Sub(two, one)) <= 0 {
			t.Fatalf("corner %d doesn't turn to the left", i)
		}
	}
	checkRight(t, s, false)
}

// Products are rounded toward 0, so that the least shapes have an area of 0.
func TestRightOfTheLeastShapes(t *testing.T) {
	const least = 1 << 16
	triangle := func(w, h api.F) api.Shape {
		return polygon(api.V{}, api.V{X: w}, api.V{Y: h})
	}
	checkRight(t, triangle(least, least), true)
	checkRight(t, triangle(least-1, least), false)
	checkRight(t, triangle(least, least-1), false)
	checkRight(t, triangle(1, api.One), true)
	checkRight(t, triangle(1, api.One-1), false)
	checkRight(t, triangle(1, 1), false)
	checkRight(t, shape.Box(least/2, least/2), true)
	checkRight(t, shape.Box(least/2-1, least/2), false)
}

// outline returns the corners of the convex hull, to the left from the least
// one (by X, then Y), without those that are in a line with others.
func outline(p [][2]int) [][2]int {
	sorted := slices.Clone(p)
	slices.SortFunc(sorted, func(a, b [2]int) int { return slices.Compare(a[:], b[:]) })
	sorted = slices.Compact(sorted)
	if len(sorted) < 3 {
		return sorted
	}
	lower := chain(sorted)
	slices.Reverse(sorted)
	upper := chain(sorted)
	return slices.Concat(lower[:len(lower)-1], upper[:len(upper)-1])
}

// chain returns those that a string on the right side of all would touch.
func chain(sorted [][2]int) [][2]int {
	var l [][2]int
	for _, c := range sorted {
		for len(l) > 1 && !turnsLeft(l[len(l)-2], l[len(l)-1], c) {
			l = l[:len(l)-1]
		}
		l = append(l, c)
	}
	return l
}

func turnsLeft(a, b, c [2]int) bool {
	return (b[0]-a[0])*(c[1]-a[1]) > (b[1]-a[1])*(c[0]-a[0])
}

// A polygon is right if its corners are those of its hull, in that order.
func TestRightOfAllSmallPolygons(t *testing.T) {
	for _, c := range []struct{ corners, grid int }{{3, 5}, {4, 4}, {5, 3}} {
		count := 0
		eachPolygon(c.corners, c.grid, func(p [][2]int) {
			least := 0
			for i := range p {
				if slices.Compare(p[i][:], p[least][:]) < 0 {
					least = i
				}
			}
			want := slices.Equal(outline(p), slices.Concat(p[least:], p[:least])) && len(p) > 2
			if want {
				count++
			}
			checkRight(t, wholes(p...), want)
		})
		if count == 0 {
			t.Errorf("none of %d corners is right", c.corners)
		}
	}
}

// eachPolygon calls check with all lists of so many corners from a square grid.
func eachPolygon(corners, grid int, check func(p [][2]int)) {
	p := make([][2]int, corners)
	var choose func(i int)
	choose = func(i int) {
		if i == corners {
			check(p)
			return
		}
		for at := range grid * grid {
			p[i] = [2]int{at % grid, at / grid}
			choose(i + 1)
		}
	}
	choose(0)
}

// The chapter's words, corner by corner, on polygons that are nearly right: the
// corners of regular ones, moved a little.
func TestRightOfNearlyRegularPolygons(t *testing.T) {
	next := noise()
	count := [2]int{}
	for try := range 20000 {
		s := regular(3+try%6, 1<<(16+try%22))
		for i := range s.P {
			move := api.V{X: next() >> 30, Y: next() >> 30}
			s.P[i] = vec.Bring(vec.Add(s.P[i], move), shape.Great)
		}
		want := convex(s.P)
		checkRight(t, s, want)
		if want {
			count[1]++
		} else {
			count[0]++
		}
	}
	if min(count[0], count[1]) < 1000 {
		t.Errorf("%d are wrong and %d are right", count[0], count[1])
	}
}

func convex(p []api.V) bool {
	for i := range p {
		k := i + 1
		if k == len(p) {
			k = 0
		}
		for o := range p {
			if o != i && o != k && vec.Cross(vec.Sub(p[k], p[i]), vec.Sub(p[o], p[i])) <= 0 {
				return false
			}
		}
	}
	return true
}

// It doesn't matter which corner is the first one.
func TestRightFromEachCorner(t *testing.T) {
	for _, s := range valid() {
		checkRight(t, s, true)
		for i := range s.P {
			checkRight(t, polygon(slices.Concat(s.P[i:], s.P[:i])...), true)
		}
	}
	for _, s := range invalid() {
		checkRight(t, s, false)
	}
}

func checkSame(t *testing.T, a, b api.Shape, want bool) {
	t.Helper()
	if got := shape.Same(a, b); got != want {
		t.Errorf("Same(%v, %v) = %t, want %t", a, b, got, want)
	}
	if got := shape.Same(b, a); got != want {
		t.Errorf("Same(%v, %v) = %t, want %t", b, a, got, want)
	}
}

func TestSame(t *testing.T) {
	box := shape.Box(api.One, 2*api.One)
	more := func(s api.Shape, p ...api.V) api.Shape {
		s.P = slices.Concat(s.P, p)
		return s
	}
	for _, c := range []struct {
		what string
		a, b api.Shape
		want bool
	}{
		{"nothing", api.Shape{}, api.Shape{}, true},
		{"nil and empty", api.Shape{Kind: api.Circle, R: 5}, api.Shape{Kind: api.Circle, R: 5, P: []api.V{}}, true},
		{"nil and one", polygon(), polygon(api.V{}), false},
		{"circles", circle(api.One), circle(api.One), true},
		{"circles, but for a unit", circle(api.One), circle(api.One + 1), false},
		{"circles of opposite signs", circle(api.One), circle(-api.One), false},
		{"circles of Most and Least", circle(api.Most), circle(api.Least), false},
		{"boxes", box, shape.Box(api.One, 2*api.One), true},
		{"boxes of other widths", box, shape.Box(api.One+1, 2*api.One), false},
		{"boxes of other heights", box, shape.Box(api.One, 2*api.One+1), false},
		{"another kind", circle(0), polygon(), false},
		{"another kind of the same R", api.Shape{Kind: 7, R: 1}, api.Shape{Kind: -7, R: 1}, false},
		{"another kind of the same corners", box, api.Shape{Kind: api.Circle, P: box.P}, false},
		{"kinds that are none", api.Shape{Kind: 7, R: lowest}, api.Shape{Kind: 7, R: lowest}, true},
		{"another R of the same corners", box, api.Shape{Kind: api.Poly, R: 1, P: box.P}, false},
		{"another first corner", box, polygon(slices.Concat(box.P[1:], box.P[:1])...), false},
		{"the other way round", box, backwards(box), false},
		{"one corner more", box, more(box, whole(9, 9)), false},
		{"the same corner again", box, more(box, box.P[3]), false},
		{"no corners", box, polygon(), false},
		{"extremes", polygon(api.V{X: lowest, Y: api.Most}), polygon(api.V{X: lowest, Y: api.Most}), true},
	} {
		t.Run(c.what, func(t *testing.T) { checkSame(t, c.a, c.b, c.want) })
	}
}

// A unit more or less in any component makes another shape.
func TestSameByComponents(t *testing.T) {
	for _, s := range valid() {
		checkSame(t, s, s, true)
		for i, corner := range s.P {
			for _, by := range []api.F{-1, 1, api.One} {
				checkSame(t, s, with(s, i, corner.X+by, corner.Y), false)
				checkSame(t, s, with(s, i, corner.X, corner.Y+by), false)
			}
			checkSame(t, s, with(s, i, corner.X, corner.Y), true)
		}
	}
}

func TestSameOfAllPairs(t *testing.T) {
	l := valid()
	for i, a := range l {
		for j, b := range l {
			checkSame(t, a, b, i == j)
		}
	}
}

func TestCopy(t *testing.T) {
	for _, s := range append(valid(), invalid()...) {
		corners := slices.Clone(s.P)
		got := shape.Copy(s)
		if got.Kind != s.Kind || got.R != s.R || !slices.Equal(got.P, corners) {
			t.Fatalf("Copy(%v) = %v", s, got)
		}
		for i := range got.P {
			got.P[i].X++
			got.P[i].Y--
		}
		got.P = append(got.P, whole(1, 2))
		if !slices.Equal(s.P, corners) {
			t.Fatalf("a change of its copy made %v of %v", s.P, corners)
		}
	}
}

// What lies behind the corners in their memory isn't the copy's either.
func TestCopyOfPartOfASlice(t *testing.T) {
	all := []api.V{whole(1, 1), whole(2, 2), whole(3, 3)}
	for n := range 3 {
		got := shape.Copy(polygon(all[:n]...))
		_ = append(got.P, whole(9, 9), whole(9, 9), whole(9, 9))
		if !slices.Equal(all, []api.V{whole(1, 1), whole(2, 2), whole(3, 3)}) {
			t.Fatalf("a corner more of the copy of %d made %v", n, all)
		}
	}
}

func TestCopyFirst(t *testing.T) {
	s := shape.Box(api.One, api.One)
	got := shape.Copy(s)
	s.P[2] = whole(7, 7)
	if !shape.Same(got, shape.Box(api.One, api.One)) {
		t.Errorf("a change of the first one made %v of its copy", got)
	}
}

func TestBox(t *testing.T) {
	for _, c := range []struct {
		w, h api.F
		want []api.V
	}{
		{api.One, api.One, []api.V{whole(-1, -1), whole(1, -1), whole(1, 1), whole(-1, 1)}},
		{2 * api.One, 5 * api.One, []api.V{whole(-2, -5), whole(2, -5), whole(2, 5), whole(-2, 5)}},
		{3, 1, []api.V{{X: -3, Y: -1}, {X: 3, Y: -1}, {X: 3, Y: 1}, {X: -3, Y: 1}}},
		{0, 0, make([]api.V, 4)},
		{0, 7, []api.V{{Y: -7}, {Y: -7}, {Y: 7}, {Y: 7}}},
		{-1, 2, []api.V{{X: 1, Y: -2}, {X: -1, Y: -2}, {X: -1, Y: 2}, {X: 1, Y: 2}}},
		{api.Most, api.Least, []api.V{{X: api.Least, Y: api.Most}, {X: api.Most, Y: api.Most}, {X: api.Most, Y: api.Least}, {X: api.Least, Y: api.Least}}},
		// As Least, whose opposite is Most.
		{lowest, lowest, []api.V{{X: api.Most, Y: api.Most}, {X: api.Least, Y: api.Most}, {X: api.Least, Y: api.Least}, {X: api.Most, Y: api.Least}}},
	} {
		got := shape.Box(c.w, c.h)
		for i := range got.P {
			got.P[i] = vec.Bring(got.P[i], api.Most)
		}
		if want := polygon(c.want...); !shape.Same(got, want) {
			t.Errorf("Box(%d, %d) = %v, want %v", c.w, c.h, got, want)
		}
	}
}

func TestBoxIsRight(t *testing.T) {
	for _, c := range []struct {
		w, h api.F
		want bool
	}{
		{api.One, api.One, true},
		{shape.Great, shape.Great, true},
		{shape.Great, shape.Small, true},
		{shape.Great + 1, api.One, false},
		{api.One, shape.Great + 1, false},
		{0, api.One, false},
		{api.One, 0, false},
		{-api.One, api.One, false},
		{api.One, -api.One, false},
		// Both turn it by half a turn.
		{-api.One, -api.One, true},
		{api.Most, api.Most, false},
		{lowest, lowest, false},
	} {
		if got := shape.Right(shape.Box(c.w, c.h)); got != c.want {
			t.Errorf("Right of Box(%d, %d) = %t, want %t", c.w, c.h, got, c.want)
		}
	}
}

func TestBoxHasItsArea(t *testing.T) {
	s := shape.Box(api.One, api.One)
	var twice api.F
	for i, corner := range s.P {
		twice = fix.Add(twice, vec.Cross(corner, s.P[(i+1)%4]))
	}
	if twice != fix.Of(8) {
		t.Errorf("Box of 1, 1 has the area %d", twice/2)
	}
}

func TestBoxesAreTheirOwn(t *testing.T) {
	shape.Box(api.One, api.One).P[0] = whole(5, 5)
	if got := shape.Box(api.One, api.One).P[0]; got != whole(-1, -1) {
		t.Errorf("a change of one box made %v of another one's corner", got)
	}
}

func TestCorners(t *testing.T) {
	box := shape.Box(api.One, 2*api.One)
	at := whole(10, 20)
	turned := []api.V{whole(12, 19), whole(12, 21), whole(8, 21), whole(8, 19)}
	const diagonal = 3037000500 // the root of 1/2
	for _, c := range []struct {
		what  string
		s     api.Shape
		at    api.V
		angle api.F
		want  []api.V
	}{
		{"where they are", box, api.V{}, 0, box.P},
		{"moved", box, at, 0, []api.V{whole(9, 18), whole(11, 18), whole(11, 22), whole(9, 22)}},
		{"a quarter turn", box, at, quarter, turned},
		{"more than a turn", box, at, 5 * api.One / 4, turned},
		{"the other way", box, at, -3 * quarter, turned},
		{"less than the next step", box, at, quarter + 1<<22 - 1, turned},
		{"half a turn", box, at, half, []api.V{whole(11, 22), whole(9, 22), whole(9, 18), whole(11, 18)}},
		{"three quarters", box, at, 3 * quarter, []api.V{whole(8, 21), whole(8, 19), whole(12, 19), whole(12, 21)}},
		{"an eighth", polygon(whole(1, 0), whole(0, 1)), api.V{X: 5, Y: 7}, quarter / 2, []api.V{{X: diagonal + 5, Y: diagonal + 7}, {X: -diagonal + 5, Y: diagonal + 7}}},
		{"a circle", circle(api.One), at, quarter, nil},
		{"a circle with corners", api.Shape{Kind: api.Circle, R: api.One, P: box.P}, at, quarter, nil},
		{"no corners", polygon(), at, quarter, nil},
		{"empty corners", api.Shape{Kind: api.Poly, P: []api.V{}}, at, quarter, nil},
		{"a kind that is none", api.Shape{Kind: 9, P: box.P}, at, quarter, turned},
		{"saturated", polygon(api.V{X: api.Most, Y: api.Least}), whole(1, -1), 0, []api.V{{X: api.Most, Y: api.Least}}},
		{"at the end of the range", polygon(whole(1, -1)), api.V{X: api.Most, Y: lowest}, 0, []api.V{{X: api.Most, Y: api.Least}}},
		{"turned, then added", polygon(api.V{X: lowest, Y: api.Most}), api.V{X: 0, Y: 1}, half, []api.V{{X: api.Most, Y: api.Least + 1}}},
		{"angle Least", polygon(whole(3, 4)), api.V{}, api.Least, []api.V{whole(3, 4)}},
		{"angle -2^63", polygon(whole(3, 4)), api.V{}, lowest, []api.V{whole(3, 4)}},
		{"angle Most", polygon(whole(1, 0)), api.V{}, api.Most, []api.V{{X: api.Sine(255), Y: -api.Sine(1)}}},
	} {
		if got := shape.Corners(c.s, c.at, c.angle); !slices.Equal(got, c.want) {
			t.Errorf("%s: Corners(%v, %v, %d) = %v, want %v", c.what, c.s, c.at, c.angle, got, c.want)
		}
	}
}

// The chapter's words for any shape, place and angle.
func TestCornersOfManyShapes(t *testing.T) {
	next := noise()
	for range 200 {
		for _, s := range append(valid(), invalid()...) {
			at, angle := api.V{X: next(), Y: next()}, next()
			got := shape.Corners(s, at, angle)
			var want []api.V
			if s.Kind != api.Circle {
				for _, corner := range s.P {
					want = append(want, vec.Add(vec.Apply(turn.Of(angle), corner), at))
				}
			}
			if !slices.Equal(got, want) {
				t.Fatalf("Corners(%v, %v, %d) = %v, want %v", s, at, angle, got, want)
			}
		}
	}
}

// unchanged calls work, with corners of its own, and checks that it leaves them
// as they are, and that what it returns is other memory.
func unchanged(t *testing.T, what string, p []api.V, work func(p []api.V) []api.V) {
	t.Helper()
	given := slices.Clone(p)
	got := work(given)
	if !slices.Equal(given, p) {
		t.Fatalf("%s made %v of %v", what, given, p)
	}
	for i := range got {
		got[i] = whole(77, 77)
	}
	_ = append(got[:0], make([]api.V, len(got))...)
	if !slices.Equal(given, p) {
		t.Fatalf("what %s returned shares memory with what it was given", what)
	}
	again := work(given)
	if len(again) > 0 && again[0] == whole(77, 77) {
		t.Fatalf("what %s returned shares memory with what it returned before", what)
	}
}

func TestArgumentsStayAsTheyAre(t *testing.T) {
	for _, s := range append(valid(), invalid()...) {
		unchanged(t, "Corners", s.P, func(p []api.V) []api.V {
			return shape.Corners(api.Shape{Kind: s.Kind, R: s.R, P: p}, api.V{}, 0)
		})
		unchanged(t, "Normals", s.P, shape.Normals)
		unchanged(t, "Copy", s.P, func(p []api.V) []api.V { return shape.Copy(polygon(p...)).P })
		unchanged(t, "Right", s.P, func(p []api.V) []api.V {
			shape.Right(polygon(p...))
			shape.Reach(polygon(p...))
			shape.Same(polygon(p...), polygon(s.P...))
			return nil
		})
	}
}

func TestNormals(t *testing.T) {
	const (
		threeFifths = 2576980377 // rounded toward 0
		fourFifths  = 3435973836
	)
	around := []api.V{whole(0, -1), whole(1, 0), whole(0, 1), whole(-1, 0)}
	for _, c := range []struct {
		what    string
		p, want []api.V
	}{
		{"none", nil, nil},
		{"empty", []api.V{}, nil},
		{"a box", shape.Box(api.One, api.One).P, around},
		{"a long box", shape.Box(5*api.One, 1<<20).P, around},
		{"to the right", backwards(shape.Box(api.One, api.One)).P, []api.V{whole(0, -1), whole(-1, 0), whole(0, 1), whole(1, 0)}},
		{"a triangle", []api.V{{}, whole(4, 0), whole(0, 3)}, []api.V{whole(0, -1), {X: threeFifths, Y: fourFifths}, whole(-1, 0)}},
		{"one", []api.V{whole(3, 4)}, []api.V{{}}},
		{"two", []api.V{{}, whole(3, 4)}, []api.V{{X: fourFifths, Y: -threeFifths}, {X: -fourFifths, Y: threeFifths}}},
		{"two that are equal", []api.V{whole(3, 4), whole(3, 4)}, make([]api.V, 2)},
		{"two neighbours that are equal", []api.V{{}, whole(2, 0), whole(2, 0), whole(2, 2)}, []api.V{whole(0, -1), {}, whole(1, 0), {X: -3037000500, Y: 3037000500}}},
		{"the last and the first are equal", []api.V{whole(5, 5), whole(7, 5), whole(5, 5)}, []api.V{whole(0, -1), whole(0, 1), {}}},
		{"too near", []api.V{{}, {X: 65535, Y: -65535}}, make([]api.V, 2)},
		{"near", []api.V{{}, {X: 65536}}, []api.V{whole(0, -1), whole(0, 1)}},
		{"where the length is saturated", []api.V{{}, {X: longest, Y: 3 * longest}}, []api.V{whole(3, -1), whole(-3, 1)}},
		{"where the way is, too", []api.V{{X: lowest}, {X: api.Most}}, []api.V{{Y: -fix.Div(api.Most, longest)}, {Y: fix.Div(api.Most, longest)}}},
		{"-2^63 and Least", []api.V{{X: lowest, Y: api.Least}, {X: api.Least, Y: lowest}}, make([]api.V, 2)},
	} {
		if got := shape.Normals(c.p); !slices.Equal(got, c.want) {
			t.Errorf("%s: Normals(%v) = %v, want %v", c.what, c.p, got, c.want)
		}
	}
}

// The chapter's words for any corners.
func TestNormalsOfManyShapes(t *testing.T) {
	for _, s := range append(valid(), invalid()...) {
		got := shape.Normals(s.P)
		if len(got) != len(s.P) {
			t.Fatalf("%d normals of %v", len(got), s)
		}
		for i, corner := range s.P {
			k := i + 1
			if k == len(s.P) {
				k = 0
			}
			unit, ok := vec.Unit(vec.Sub(s.P[k], corner))
			if want := (api.V{X: unit.Y, Y: fix.Neg(unit.X)}); got[i] != want || !ok && got[i] != (api.V{}) {
				t.Fatalf("normal %d of %v = %v, want %v", i, s, got[i], want)
			}
		}
	}
}

// Those of a valid polygon are of the length 1, nearly, and leave all corners
// behind them.
func TestNormalsOfValidPolygons(t *testing.T) {
	for _, s := range valid() {
		for i, normal := range shape.Normals(s.P) {
			if off := fix.Abs(vec.Len(normal) - api.One); off > 4 {
				t.Errorf("normal %d of %v = %v, longer than 1 by %d", i, s, normal, off)
			}
			for o, corner := range s.P {
				if ahead := vec.Dot(normal, vec.Sub(corner, s.P[i])); ahead > 256 {
					t.Errorf("corner %d of %v is ahead of side %d by %d", o, s, i, ahead)
				}
			}
		}
	}
}

func TestReach(t *testing.T) {
	for _, c := range []struct {
		what string
		s    api.Shape
		want api.F
	}{
		{"a circle", circle(api.Pi), api.Pi},
		{"the least circle", circle(shape.Small), shape.Small},
		{"a circle of Most", circle(api.Most), api.Most},
		{"a circle of Least", circle(api.Least), api.Least},
		{"a circle of -1", circle(-1), -1},
		{"a circle with corners", api.Shape{Kind: api.Circle, R: api.One, P: []api.V{whole(3, 4)}}, api.One},
		{"a box", shape.Box(3*api.One, 4*api.One), fix.Of(5)},
		{"the last corner", wholes([2]int{0, 0}, [2]int{1, 0}, [2]int{-5, 12}), fix.Of(13)},
		{"the first corner", wholes([2]int{6, 8}, [2]int{7, 7}, [2]int{6, 7}), fix.Of(10)},
		{"a corner in the middle", wholes([2]int{0, 0}, [2]int{8, -6}, [2]int{0, 1}), fix.Of(10)},
		{"far from 0, 0", wholes([2]int{30, 40}, [2]int{31, 40}, [2]int{30, 41}), 218199556494}, // the root of 2581,
		{"a polygon with an R", api.Shape{Kind: api.Poly, R: fix.Of(9), P: []api.V{whole(3, 4)}}, fix.Of(5)},
		{"a kind that is none", api.Shape{Kind: 3, R: fix.Of(9), P: []api.V{whole(3, 4)}}, fix.Of(5)},
		{"a kind that is none, without corners", api.Shape{R: fix.Of(9)}, 0},
		{"no corners", polygon(), 0},
		{"empty corners", api.Shape{Kind: api.Poly, P: []api.V{}}, 0},
		{"a corner at 0, 0", polygon(api.V{}), 0},
		{"near", polygon(api.V{X: 65535, Y: 65535}), 0},
		{"beyond", polygon(whole(1, 1), api.V{X: api.Most, Y: api.Least}), longest},
		{"-2^63", polygon(api.V{X: lowest, Y: lowest}, whole(1, 1)), longest},
	} {
		if got := shape.Reach(c.s); got != c.want {
			t.Errorf("%s: Reach(%v) = %d, want %d", c.what, c.s, got, c.want)
		}
	}
}

// No corner reaches farther, at whatever angle, and one as far.
func TestReachOfValidPolygons(t *testing.T) {
	for _, s := range append(valid(), invalid()...) {
		if s.Kind == api.Circle {
			continue
		}
		reach, reached := shape.Reach(s), len(s.P) == 0
		for _, corner := range s.P {
			length := vec.Len(corner)
			if length > reach {
				t.Errorf("Reach(%v) = %d, but a corner is at %d", s, reach, length)
			}
			reached = reached || length == reach
		}
		if !reached {
			t.Errorf("Reach(%v) = %d, but no corner is there", s, reach)
		}
	}
	for _, s := range valid() {
		for step := range api.F(1024) {
			for _, corner := range shape.Corners(s, api.V{}, step<<22) {
				if vec.Len(corner) > shape.Reach(s)+256 {
					t.Fatalf("a corner of %v at step %d is at %v", s, step, corner)
				}
			}
		}
	}
}

// TestAnyArguments is for P0: no call may panic, whatever it is given.
func TestAnyArguments(t *testing.T) {
	l := append(valid(), invalid()...)
	l = append(l, polygon(make([]api.V, 100000)...))
	for i, s := range l {
		shape.Right(s)
		shape.Same(s, l[(i+1)%len(l)])
		shape.Copy(s)
		shape.Normals(s.P)
		shape.Reach(s)
		for _, a := range extremes() {
			for _, b := range extremes() {
				shape.Box(a, b)
				if len(s.P) < 100 {
					shape.Corners(s, api.V{X: a, Y: b}, a)
				}
			}
		}
	}
}
