package touch_test

import (
	"math"
	"slices"
	"testing"

	"bagatelle/api"
	"bagatelle/box"
	"bagatelle/fix"
	"bagatelle/shape"
	"bagatelle/touch"
	"bagatelle/vec"
)

// noise returns a function that returns numbers of so many bits and a sign,
// always the same.
func noise() func(bits int) api.F {
	state := uint64(88172645463325252)
	return func(bits int) api.F {
		state ^= state << 13
		state ^= state >> 7
		state ^= state << 17
		return api.F(state) >> (63 - bits)
	}
}

// pick returns one of l.
func pick[T any](next func(bits int) api.F, l []T) T {
	return l[int(next(32)&math.MaxInt32)%len(l)]
}

func extremes() []api.F {
	return []api.F{lowest, api.Least, api.Least + 1, -api.Far, -one, -1, 0, 1, one, api.Far, api.Most - 1, api.Most}
}

// valid returns shapes that are valid, of each kind and number of corners.
func valid(t *testing.T) []api.Shape {
	t.Helper()
	l := []api.Shape{
		circle(shape.Small), disc(), circle(3 * one), circle(api.Pi),
		tile(), brick(), diamond(2), shape.Box(4*one, quarter), shape.Box(eighth, eighth),
		polygon(whole(0, 0), whole(4, 1), whole(1, 3)),
		polygon(whole(3, 3), whole(5, 4), whole(4, 6)),
		polygon(whole(0, -6), whole(3, -4), whole(5, -1), whole(4, 3), whole(1, 7), whole(-2, 4), whole(-3, 1), whole(-2, -3)),
	}
	for n := 3; n <= api.MaxCorners; n++ {
		l = append(l, regular(n, 2*one))
	}
	checkValid(t, l...)
	return l
}

// beside returns two bodies with these shapes, near to each other.
func beside(next func(bits int) api.F, a, b api.Shape) (api.Body, api.Body) {
	at := api.V{X: next(40), Y: next(40)}
	far := fix.Div(fix.Add(shape.Reach(a), shape.Reach(b)), fix.Of(4))
	way := api.V{X: fix.Mul(next(34), far), Y: fix.Mul(next(34), far)}
	return turned(a, at, next(33)), turned(b, vec.Add(at, way), next(33))
}

// The following functions are the chapter's words.

func toldGap(p, q []api.V) (int, api.F) {
	var gaps []api.F
	for i, normal := range shape.Normals(p) {
		var l []api.F
		for _, corner := range q {
			l = append(l, vec.Dot(normal, vec.Sub(corner, p[i])))
		}
		gaps = append(gaps, slices.Min(l))
	}
	greatest := slices.Max(gaps)
	return slices.Index(gaps, greatest), greatest
}

func toldCircles(a, b api.Body) touch.Touch {
	d := vec.Sub(b.Pos, a.Pos)
	n, r := vec.Len(d), fix.Add(a.Shape.R, b.Shape.R)
	if n >= r {
		return apart()
	}
	normal, ok := vec.Unit(d)
	if !ok {
		normal = whole(1, 0)
	}
	depth := fix.Sub(r, n)
	at := vec.Add(a.Pos, vec.Scale(normal, fix.Sub(a.Shape.R, fix.Div(depth, fix.Of(2)))))
	return touching(normal, point(at, depth, 0))
}

func toldPolygonCircle(a, b api.Body) touch.Touch {
	p := shape.Corners(a.Shape, a.Pos, a.Angle)
	i, s := toldGap(p, []api.V{b.Pos})
	first, second, normal, r := p[i], p[(i+1)%len(p)], shape.Normals(p)[i], b.Shape.R
	if s >= r {
		return apart()
	}
	chosen, c, key := first, api.V{}, -1
	if u, w, e := vec.Sub(b.Pos, first), vec.Sub(b.Pos, second), vec.Sub(second, first); s > 0 {
		if vec.Dot(u, e) <= 0 {
			chosen, c, key = first, u, 2*i
		} else if vec.Dot(w, vec.Neg(e)) <= 0 {
			chosen, c, key = second, w, 2*i+1
		}
	}
	if key < 0 {
		return touching(normal, point(vec.Sub(b.Pos, vec.Scale(normal, r)), fix.Sub(r, s), 16+i))
	}
	if vec.Len(c) >= r {
		return apart()
	}
	if unit, ok := vec.Unit(c); ok {
		normal = unit
	}
	return touching(normal, point(chosen, fix.Sub(r, vec.Len(c)), key))
}

func toldPolygons(a, b api.Body) touch.Touch {
	p, q := shape.Corners(a.Shape, a.Pos, a.Angle), shape.Corners(b.Shape, b.Pos, b.Angle)
	i, gap := toldGap(p, q)
	k, otherGap := toldGap(q, p)
	if gap >= 0 || otherGap >= 0 {
		return apart()
	}
	key := 32
	if gap < otherGap {
		i, p, q, key = k, q, p, 64
	}
	normal, first, second := shape.Normals(p)[i], p[i], p[(i+1)%len(p)]
	var facing []api.F
	for _, n := range shape.Normals(q) {
		facing = append(facing, vec.Dot(normal, n))
	}
	edge := slices.Index(facing, slices.Min(facing))
	ends := []api.V{q[edge], q[(edge+1)%len(q)]}
	t, _ := vec.Unit(vec.Sub(second, first))
	for _, clipping := range [][2]api.V{{t, first}, {vec.Neg(t), second}} {
		x := vec.Dot(clipping[0], vec.Sub(ends[0], clipping[1]))
		y := vec.Dot(clipping[0], vec.Sub(ends[1], clipping[1]))
		if x < 0 && y < 0 {
			return apart()
		}
		toOther := vec.Sub(ends[1], ends[0])
		if x < 0 {
			ends[0] = vec.Add(ends[0], vec.Scale(toOther, fix.Div(x, fix.Sub(x, y))))
		}
		if y < 0 {
			ends[1] = vec.Add(ends[1], vec.Scale(vec.Neg(toOther), fix.Div(y, fix.Sub(y, x))))
		}
	}
	var l []touch.Point
	for n, end := range ends {
		if depth := -vec.Dot(normal, vec.Sub(end, first)); depth > 0 {
			l = append(l, point(end, depth, key+2*i+n))
		}
	}
	switch {
	case len(l) == 0:
		return apart()
	case key == 64:
		normal = vec.Neg(normal)
	}
	return touching(normal, l...)
}

func told(a, b api.Body) touch.Touch {
	first, second := a.Shape.Kind == api.Circle, b.Shape.Kind == api.Circle
	switch {
	case first && second:
		return toldCircles(a, b)
	case first:
		return other(toldPolygonCircle(b, a))
	case second:
		return toldPolygonCircle(a, b)
	}
	return toldPolygons(a, b)
}

func isPolygon(s api.Shape) bool {
	return s.Kind == api.Poly
}

// allKeys returns each number that a Key may be, in ascending order.
func allKeys() []int {
	var l []int
	for _, span := range [][2]int{{0, 24}, {32, 48}, {64, 80}} {
		for key := span[0]; key < span[1]; key++ {
			l = append(l, key)
		}
	}
	return l
}

// checkEach checks that each key is there, and no other one.
func checkEach(t *testing.T, keys map[int]int) {
	t.Helper()
	var l []int
	for key := range keys {
		l = append(l, key)
	}
	slices.Sort(l)
	if !slices.Equal(l, allKeys()) {
		t.Errorf("the keys are %v, want %v", l, allKeys())
	}
}

// The chapter's words for any two valid shapes, at any place and angle.
func TestOfManyBodies(t *testing.T) {
	next, keys := noise(), map[int]int{}
	l := valid(t)
	for _, s := range l {
		for _, u := range l {
			for range 200 {
				a, b := beside(next, s, u)
				want := told(a, b)
				checkOf(t, "the chapter's words", a, b, want)
				for _, p := range want.Points {
					keys[p.Key]++
				}
			}
		}
	}
	checkEach(t, keys)
}

// The same at the same angle, and where their sides are upright or level, as
// gaps are equal then, and ends lie on lines.
func TestOfManyBodiesOnAGrid(t *testing.T) {
	next, l := noise(), valid(t)
	for _, s := range l {
		for _, u := range l {
			for range 100 {
				a, b := beside(next, s, u)
				a.Pos, b.Pos = whole(0, 0), api.V{X: (b.Pos.X - a.Pos.X) &^ (quarter - 1), Y: (b.Pos.Y - a.Pos.Y) &^ (quarter - 1)}
				a.Angle, b.Angle = 0, 0
				checkOf(t, "on a grid", a, b, told(a, b))
				a.Angle, b.Angle = quarter, -quarter
				checkOf(t, "on a grid, turned", a, b, told(a, b))
			}
		}
	}
}

// The same for polygons of some units, where rounding decides.
func TestOfManySmallPolygons(t *testing.T) {
	next := noise()
	small := func(bits int) api.Shape {
		for {
			s := polygon()
			for range 3 + next(32)&1 {
				s.P = append(s.P, api.V{X: next(bits), Y: next(bits)})
			}
			if shape.Right(s) {
				return s
			}
		}
	}
	for n := range 20000 {
		bits := 16 + n%5
		a, b := body(small(bits), whole(0, 0)), body(small(bits), api.V{X: next(bits), Y: next(bits)})
		checkOf(t, "small ones", a, b, told(a, b))
		b.Shape = circle(shape.Small)
		checkOf(t, "a small one and a circle", a, b, told(a, b))
		checkOf(t, "a circle and a small one", b, a, told(b, a))
	}
}

func TestGapOfManyCorners(t *testing.T) {
	next, ends := noise(), extremes()
	corners := func(bits int) []api.V {
		var l []api.V
		for range 1 + next(32)&7 {
			l = append(l, api.V{X: next(bits), Y: next(bits)})
			if bits == 63 {
				l = append(l, api.V{X: pick(next, ends), Y: pick(next, ends)})
			}
		}
		return l
	}
	for n := range 30000 {
		p, q := corners(14+n%50), corners(14+n%50)
		side, gap := toldGap(p, q)
		checkGap(t, "the chapter's words", p, q, side, gap)
	}
}

// Each side and each corner of an octagon has its own key for a circle.
func TestKeysOfCircles(t *testing.T) {
	s := regular(8, 4*one)
	keys := map[int]int{}
	for i, normal := range shape.Normals(s.P) {
		second := s.P[(i+1)%8]
		for key, at := range map[int]api.V{
			16 + i:  vec.Scale(normal, 4*one),
			2 * i:   vec.Add(vec.Scale(s.P[i], one+eighth), vec.Scale(normal, eighth)),
			2*i + 1: vec.Add(vec.Scale(second, one+eighth), vec.Scale(normal, eighth)),
		} {
			b := body(disc(), at)
			for _, pair := range [][2]api.Body{{body(s, whole(0, 0)), b}, {b, body(s, whole(0, 0))}} {
				got, ok := touch.Of(pair[0], pair[1])
				if !ok || len(got.Points) != 1 || got.Points[0].Key != key {
					t.Errorf("the octagon and a circle at %v: %v, %t, want the key %d", b.Pos, got, ok, key)
				}
			}
			keys[key]++
		}
	}
	if len(keys) != 24 {
		t.Errorf("%d keys, not 24", len(keys))
	}
}

// Each side of an octagon has two keys for a polygon, and two others if it is
// the second one. A square that is turned a little further than the side has
// the lesser gap.
func TestKeysOfPolygons(t *testing.T) {
	s := regular(8, 4*one)
	for i, normal := range shape.Normals(s.P) {
		a := body(s, whole(0, 0))
		b := turned(shape.Box(half, half), vec.Scale(normal, 4*one), fix.Part(2*i+1, 16)+5<<22)
		for n, pair := range [][2]api.Body{{a, b}, {b, a}} {
			got, ok := touch.Of(pair[0], pair[1])
			key := 32 + 32*n + 2*i
			if !ok || len(got.Points) != 2 || got.Points[0].Key != key || got.Points[1].Key != key+1 {
				t.Errorf("side %d, case %d: %v, %t, want the keys %d and %d", i, n, got, ok, key, key+1)
			}
			want := normal
			if n == 1 {
				want = vec.Neg(normal)
			}
			if got.Normal != want {
				t.Errorf("side %d, case %d: the normal is %v, want %v", i, n, got.Normal, want)
			}
		}
	}
}

// A place is given in real numbers.
type place struct{ x, y float64 }

func exact(a api.V) place {
	return place{float64(a.X) / float64(one), float64(a.Y) / float64(one)}
}

// segment returns how far p is from the side from a to b, and how far beyond
// the line of the side.
func segment(a, b, p place) (far, beyond float64) {
	along := place{b.x - a.x, b.y - a.y}
	length := math.Hypot(along.x, along.y)
	along = place{along.x / length, along.y / length}
	way := place{p.x - a.x, p.y - a.y}
	on := min(max(way.x*along.x+way.y*along.y, 0), length)
	return math.Hypot(way.x-on*along.x, way.y-on*along.y), way.x*along.y - way.y*along.x
}

// separation returns how far two bodies are apart, or less than 0 if they
// overlap: then it is how far the one must be moved. For polygons that are
// apart it is only the greatest gap.
func separation(a, b api.Body) float64 {
	p, q := shape.Corners(a.Shape, a.Pos, a.Angle), shape.Corners(b.Shape, b.Pos, b.Angle)
	switch {
	case isPolygon(a.Shape) && isPolygon(b.Shape):
		return max(realGap(p, q), realGap(q, p))
	case isPolygon(b.Shape):
		return separation(b, a)
	case !isPolygon(a.Shape):
		d := exact(vec.Sub(b.Pos, a.Pos))
		return math.Hypot(d.x, d.y) - exact(api.V{X: a.Shape.R + b.Shape.R}).x
	}
	least, inside := math.Inf(1), math.Inf(-1)
	for i := range p {
		far, beyond := segment(exact(p[i]), exact(p[(i+1)%len(p)]), exact(b.Pos))
		least, inside = min(least, far), max(inside, beyond)
	}
	if inside < 0 {
		least = inside
	}
	return least - exact(api.V{X: b.Shape.R}).x
}

func realGap(p, q []api.V) float64 {
	greatest := math.Inf(-1)
	for i := range p {
		least := math.Inf(1)
		for _, corner := range q {
			_, beyond := segment(exact(p[i]), exact(p[(i+1)%len(p)]), exact(corner))
			least = min(least, beyond)
		}
		greatest = max(greatest, least)
	}
	return greatest
}

// deepest returns the greatest depth.
func deepest(a touch.Touch) api.F {
	var most api.F
	for _, p := range a.Points {
		most = max(most, p.Depth)
	}
	return most
}

// Two bodies touch if they overlap in real numbers, as deep as they do, and no
// longer once the second one is pushed that far.
func TestTouchesAreReal(t *testing.T) {
	// The Len of a vector of 1/256 is exact to some 2^-16 of it, and so is its Unit.
	const bound, unit = 1e-5, 1e-4
	next, l := noise(), valid(t)
	touches := 0
	for _, s := range l {
		for _, u := range l {
			for range 100 {
				a, b := beside(next, s, u)
				far := separation(a, b)
				got, ok := touch.Of(a, b)
				if math.Abs(far) > bound && ok != (far < 0) {
					t.Errorf("Of(%+v, %+v) = %v, %t, but they are %g apart", a, b, got, ok, far)
				}
				if !ok {
					continue
				}
				touches++
				normal, depth := exact(got.Normal), deepest(got)
				if math.Abs(math.Hypot(normal.x, normal.y)-1) > unit || math.Abs(exact(api.V{X: depth}).x+far) > bound {
					t.Errorf("Of(%+v, %+v) = %v, but they are %g apart", a, b, got, far)
				}
				pushed := b
				pushed.Pos = vec.Add(b.Pos, vec.Scale(got.Normal, fix.Add(depth, one/10000)))
				if again, still := touch.Of(a, pushed); still {
					t.Errorf("Of(%+v, %+v) = %v, and once it is pushed %v", a, b, got, again)
				}
			}
		}
	}
	if touches < 1000 {
		t.Errorf("only %d touches", touches)
	}
}

// checkSound checks what holds for each touch: it has one or two points, of
// positive depths, and two bodies that don't touch have nothing.
func checkSound(t *testing.T, a, b api.Body) (touch.Touch, bool) {
	t.Helper()
	got, ok := touch.Of(a, b)
	if !ok && !same(got, apart()) || ok && (len(got.Points) < 1 || len(got.Points) > 2) {
		t.Errorf("Of(%+v, %+v) = %v, %t", a, b, got, ok)
	}
	for _, p := range got.Points {
		if p.Depth <= 0 || !slices.Contains(allKeys(), p.Key) {
			t.Errorf("Of(%+v, %+v) = %v: the point %v", a, b, got, p)
		}
	}
	return got, ok
}

// Bodies that touch have boxes that meet, except for some units: a Len near
// 1/256 may be some 2^8 units too short.
func TestBoxesOfTouchingBodiesMeet(t *testing.T) {
	const some = 1 << 9
	next, l := noise(), valid(t)
	for _, s := range l {
		for _, u := range l {
			for range 50 {
				a, b := beside(next, s, u)
				first, second := box.Of(a), box.Of(b)
				if got, ok := checkSound(t, a, b); ok && !box.Meet(box.Grow(first, some), second) {
					t.Errorf("Of(%+v, %+v) = %v, but their boxes are %v and %v", a, b, got, first, second)
				}
				right := api.V{X: first.Hi.X - second.Lo.X + some}
				left := api.V{X: first.Lo.X - second.Hi.X - some}
				above := api.V{Y: first.Hi.Y - second.Lo.Y + some}
				below := api.V{Y: first.Lo.Y - second.Hi.Y - some}
				for _, way := range []api.V{right, left, above, below} {
					moved := b
					moved.Pos = vec.Add(b.Pos, way)
					if got, ok := checkSound(t, a, moved); ok {
						t.Errorf("Of(%+v, %+v) = %v, but their boxes are %v and %v", a, moved, got, first, box.Of(moved))
					}
				}
			}
		}
	}
}

// Bodies that are translated as a whole touch in the same way, translated.
func TestOfTranslatedBodies(t *testing.T) {
	next, l := noise(), valid(t)
	for _, s := range l {
		for _, u := range l {
			a, b := beside(next, s, u)
			for _, way := range []api.V{{X: 1, Y: -1}, whole(1, 1), {X: next(50), Y: next(50)}, {X: -api.Far, Y: api.Far}} {
				want := told(a, b)
				for i, p := range want.Points {
					want.Points[i].At = vec.Add(p.At, way)
				}
				c, d := a, b
				c.Pos, d.Pos = vec.Add(a.Pos, way), vec.Add(b.Pos, way)
				checkOf(t, "translated", c, d, want)
			}
		}
	}
}

// Only the place, the angle and the shape of a body count.
func TestOfTheRestOfABody(t *testing.T) {
	next, l := noise(), valid(t)
	for _, s := range l {
		for _, u := range l {
			a, b := beside(next, s, u)
			want := told(a, b)
			for _, n := range extremes() {
				a.ID, a.Vel, a.Spin, a.Density = int(n), api.V{X: n, Y: -n}, n, n
				b.ID, b.Vel, b.Spin, b.Density = int(-n), api.V{X: -n, Y: n}, -n, -n
				checkOf(t, "the rest", a, b, want)
			}
		}
	}
}

func TestArgumentsStayAsTheyAre(t *testing.T) {
	next, l := noise(), valid(t)
	for _, s := range l {
		for _, u := range l {
			a, b := beside(next, shape.Copy(s), shape.Copy(u))
			want := told(a, b)
			got, _ := touch.Of(a, b)
			p, q := slices.Clone(a.Shape.P), slices.Clone(b.Shape.P)
			touch.Gap(p, q)
			if !shape.Same(a.Shape, s) || !shape.Same(b.Shape, u) || !slices.Equal(p, s.P) || !slices.Equal(q, u.P) {
				t.Fatalf("Of or Gap changed %v and %v", s, u)
			}
			// What was returned is memory of its own.
			for i := range got.Points {
				got.Points[i] = touch.Point{}
			}
			checkOf(t, "once more", a, b, want)
		}
	}
}

// invalid returns shapes that no body may have.
func invalid() []api.Shape {
	var l []api.Shape
	ends := []api.V{{X: lowest, Y: lowest}, {X: api.Most, Y: api.Least}, {X: api.Most, Y: api.Most}, {X: api.Least, Y: api.Most}}
	for _, p := range [][]api.V{
		nil, {}, {whole(0, 0)}, {whole(0, 0), whole(0, 0), whole(0, 0)}, {whole(-1, 0), whole(1, 0)}, {whole(-1, 1), whole(1, 1), whole(0, 0)},
		{whole(0, 0), whole(1, 0), whole(2, 0)}, tile().P, ends, ends[:1], ends[:2], ends[1:], regular(40, one).P,
	} {
		for _, kind := range []int{api.Circle, api.Poly, 0, 3, -1, math.MinInt, math.MaxInt} {
			for _, r := range extremes() {
				l = append(l, api.Shape{Kind: kind, R: r, P: p})
			}
		}
	}
	return l
}

// Whatever two bodies are, the call ends, and a touch is sound. Beyond
// MaxCorners the keys are, too.
func TestOfAnyBodies(t *testing.T) {
	next, ends := noise(), extremes()
	l := slices.Concat(invalid(), valid(t))
	for range 100000 {
		anyBody := func() api.Body {
			b := turned(pick(next, l), api.V{X: next(34), Y: next(34)}, next(63))
			if next(32)&1 == 0 {
				b.Pos, b.Angle = api.V{X: pick(next, ends), Y: pick(next, ends)}, pick(next, ends)
			}
			return b
		}
		a, b := anyBody(), anyBody()
		if len(a.Shape.P) <= api.MaxCorners && len(b.Shape.P) <= api.MaxCorners {
			checkSound(t, a, b)
		} else {
			touch.Of(a, b)
		}
	}
}

// A polygon without corners touches nothing.
func TestOfNoCorners(t *testing.T) {
	for _, p := range [][]api.V{nil, {}} {
		none := body(polygon(p...), whole(0, 0))
		none.Shape.P = p
		for _, s := range append(valid(t), none.Shape, circle(api.Most)) {
			b := body(s, whole(0, 0))
			checkOf(t, "no corners", none, b, apart())
			checkOf(t, "no corners, the second one", b, none, apart())
		}
	}
}

func TestOfExtremePlaces(t *testing.T) {
	ends := extremes()
	for _, s := range valid(t) {
		for _, u := range []api.Shape{disc(), brick(), regular(8, one), polygon(whole(0, 0), whole(4, 1), whole(1, 3))} {
			for _, x := range ends {
				for _, y := range ends {
					a, b := turned(s, api.V{X: x, Y: y}, y), turned(u, api.V{X: y, Y: x}, x)
					checkOf(t, "at the ends", a, b, told(a, b))
					b.Pos = a.Pos
					checkOf(t, "at the same end", a, b, told(a, b))
				}
			}
		}
	}
}
