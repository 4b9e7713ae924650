package solve_test

import (
	"fmt"
	"slices"
	"testing"

	"bagatelle/api"
	"bagatelle/fix"
	"bagatelle/shape"
	"bagatelle/solve"
	"bagatelle/world"
)

const (
	// lowest is -2^63, which counts as Least.
	lowest  api.F = -1 << 63
	one           = api.One
	half          = one / 2
	quarter       = one / 4
	eighth        = one / 8
	slop          = one / 64
	// threeFifths and fourFifths are rounded toward 0.
	threeFifths api.F = 2576980377
	fourFifths  api.F = 3435973836
)

func whole(x, y int) api.V {
	return api.V{X: fix.Of(x), Y: fix.Of(y)}
}

// eighths returns the vector of so many eighths.
func eighths(x, y int) api.V {
	return api.V{X: fix.Part(x, 8), Y: fix.Part(y, 8)}
}

func disc() api.Shape {
	return api.Shape{Kind: api.Circle, R: one}
}

func square() api.Shape {
	return shape.Box(one, one)
}

// wall is a static body. A block's Move is 1/2, and its Spin 3/4. A ball's Move
// is 1367130551 units, and its Spin 2734261102.
func wall(at api.V) api.Body { return api.Body{Pos: at, Shape: shape.Box(2*one, one)} }
func block(vel api.V, spin api.F) api.Body {
	return api.Body{Vel: vel, Spin: spin, Density: half, Shape: square()}
}
func ball(vel api.V, spin api.F) api.Body {
	return api.Body{Vel: vel, Spin: spin, Density: one, Shape: disc()}
}

// placed returns b at a position and an angle.
func placed(b api.Body, at api.V, angle api.F) api.Body {
	b.Pos, b.Angle = at, angle
	return b
}

// of returns a world of these bodies. Their IDs are 3, 5, 7 and so on, so that
// none is an index.
func of(bodies ...api.Body) api.World {
	w := api.World{NextBody: 3, NextJoint: 1}
	for _, b := range bodies {
		b.ID = w.NextBody
		w.Bodies = append(w.Bodies, b)
		w.NextBody += 2
	}
	return w
}

// held returns w with these joints, and with contacts.
func held(w api.World, joints []api.Joint, contacts ...api.Contact) api.World {
	for _, j := range joints {
		j.ID = w.NextJoint
		w.Joints = append(w.Joints, j)
		w.NextJoint++
	}
	w.Contacts = contacts
	return w
}

func sameBodies(a, b []api.Body) bool {
	return world.Same(api.World{Bodies: a}, api.World{Bodies: b})
}

func checkValid(t *testing.T, what string, w api.World) {
	t.Helper()
	if !world.Right(w) {
		t.Fatalf("%s: the world isn't valid: %+v", what, w)
	}
}

func checkRows(t *testing.T, what string, w api.World, pairs [][2]int, want ...solve.Row) {
	t.Helper()
	if got := solve.Rows(w, pairs); !slices.Equal(got, want) {
		t.Errorf("%s: Rows returns %+v, want %+v", what, got, want)
	}
}

func checkTies(t *testing.T, what string, w api.World, want ...solve.Tie) {
	t.Helper()
	if got := solve.Ties(w); !slices.Equal(got, want) {
		t.Errorf("%s: Ties returns %+v, want %+v", what, got, want)
	}
}

func TestTypes(t *testing.T) {
	var a, b, key int = 1, 2, 3
	var normal, ra, rb api.V = whole(1, 2), whole(3, 4), whole(5, 6)
	var gn, gt, out, n, along api.F = 4, 5, 6, 7, 8
	r := solve.Row{A: a, B: b, Key: key, Normal: normal, RA: ra, RB: rb, GN: gn, GT: gt, Out: out, N: n, T: along}
	tie := solve.Tie{A: a, B: b, Normal: normal, RA: ra, RB: rb, G: gn, Off: out}
	if got := fmt.Sprint(r, tie); got != fmt.Sprintf("{1 2 3 %v %v %v 4 5 6 7 8} {1 2 %v %v %v 4 6}", normal, ra, rb, normal, ra, rb) {
		t.Errorf("a Row and a Tie are %s", got)
	}
}

func TestRowsOfNothing(t *testing.T) {
	w := held(of(ball(whole(0, 0), 0), placed(ball(whole(0, 0), 0), whole(2, 0), 0), placed(wall(whole(0, 9)), whole(0, 9), eighth)),
		nil, api.Contact{A: 3, B: 5, N: 7, T: 8})
	checkValid(t, "nothing touches", w)
	for _, pairs := range [][][2]int{nil, {}, {{3, 5}}, {{3, 5}, {3, 7}, {5, 7}}} {
		checkRows(t, "nothing touches", w, pairs)
	}
	w.Bodies[1].Pos = whole(1, 0)
	checkRows(t, "no pairs", w, nil)
	checkRows(t, "no pairs", w, [][2]int{})
	checkRows(t, "the pairs of others", w, [][2]int{{3, 7}, {5, 7}})
	checkRows(t, "a world without bodies", world.New(), nil)
}

func TestRowsOfCircles(t *testing.T) {
	right := solve.Row{B: 1, Normal: whole(1, 0), RA: eighths(4, 0), RB: eighths(-4, 0), GN: 6746518853, GT: 4497679236, Out: 4 * one}
	up := solve.Row{B: 1, Normal: whole(0, 1), RA: eighths(0, 4), RB: eighths(0, -4), GN: 6746518853, GT: 4497679236, Out: 4 * one}
	still := ball(whole(0, 0), 0)
	still.Density = 0
	for _, far := range []api.V{whole(0, 0), whole(-300, 700), {X: api.Far - 8*one, Y: 7 - api.Far}} {
		moved := func(b api.Body, x, y int) api.Body {
			return placed(b, api.V{X: far.X + fix.Of(x), Y: far.Y + fix.Of(y)}, eighth)
		}
		one, other := ball(whole(3, 4), 5), ball(whole(-6, 7), -8)
		pairs := [][2]int{{3, 5}}
		checkRows(t, "beside each other", of(moved(one, 0, 0), moved(other, 1, 0)), pairs, right)
		checkRows(t, "above each other", of(moved(one, 0, 0), moved(other, 0, 1)), pairs, up)
		row := right
		row.GN, row.GT = 13493037706, 8995358472
		checkRows(t, "the first one is static", of(moved(still, 0, 0), moved(other, 1, 0)), pairs, row)
		checkRows(t, "the second one is static", of(moved(one, 0, 0), moved(still, 1, 0)), pairs, row)
		row.GN, row.GT = 0, 0
		checkRows(t, "both are static", of(moved(still, 0, 0), moved(still, 1, 0)), pairs, row)
	}
}

// onWall returns a block on a wall, a quarter deep, and its rows. The block is
// at an index and has an ID of its own.
func onWall() (api.World, []solve.Row) {
	w := of(placed(ball(whole(0, 0), 0), whole(50, 0), 0), wall(whole(0, 0)), placed(block(whole(1, -4), half), eighths(4, 14), 0))
	row := solve.Row{A: 1, B: 2, Normal: whole(0, 1), GN: fourFifths, GT: fourFifths, Out: 12884901887}
	left, right := row, row
	left.Key, left.RA, left.RB = 36, eighths(-4, 6), whole(-1, -1)
	right.Key, right.RA, right.RB = 37, eighths(12, 6), whole(1, -1)
	return w, []solve.Row{left, right}
}

func TestRowsOfPolygons(t *testing.T) {
	w, want := onWall()
	checkValid(t, "a block on a wall", w)
	checkRows(t, "a block on a wall", w, [][2]int{{5, 7}}, want...)
	checkRows(t, "and more pairs", w, [][2]int{{3, 5}, {3, 7}, {5, 7}}, want...)
}

// The rows have the N and T of the contacts of the same two IDs and key, and
// those of no other ones.
func TestRowsOfContacts(t *testing.T) {
	w, want := onWall()
	w.Contacts = []api.Contact{
		{A: 1, B: 2, Key: 36, N: 91, T: 92}, {A: 3, B: 5, Key: 36, N: 93, T: 94}, {A: 3, B: 7, Key: 37, N: 95},
		{A: 5, B: 7, Key: 4, N: 1, T: 2}, {A: 5, B: 7, Key: 36, N: 5, T: -6}, {A: 5, B: 7, Key: 38, N: 3, T: 4},
	}
	want[0].N, want[0].T = 5, -6
	checkRows(t, "one of two points", w, [][2]int{{5, 7}}, want...)
	w.Contacts = append(w.Contacts[:5], api.Contact{A: 5, B: 7, Key: 37, N: 0, T: api.Most})
	want[1].T = api.Most
	checkRows(t, "both points", w, [][2]int{{5, 7}}, want...)
	w.Contacts[4].N, w.Contacts[4].T = api.Most, api.Least
	want[0].N, want[0].T = api.Most, api.Least
	checkRows(t, "the greatest numbers", w, [][2]int{{5, 7}}, want...)
	checkRows(t, "twice", w, [][2]int{{5, 7}, {5, 7}}, append(want, want...)...)
}

// Rows are in the order of the pairs, whatever that is.
func TestRowsInOrder(t *testing.T) {
	w, first := onWall()
	w.Bodies[0].Pos = eighths(20, 0)
	w.Contacts = []api.Contact{{A: 3, B: 5, N: 1}, {A: 3, B: 5, Key: 16 + 1, N: 7}}
	second := solve.Rows(w, [][2]int{{3, 5}})
	if len(second) != 1 || second[0].A != 0 || second[0].B != 1 || second[0].Key != 17 || second[0].N != 7 || second[0].Out != 4*one {
		t.Fatalf("a ball beside a wall has the rows %+v", second)
	}
	if n := whole(-1, 0); second[0].Normal != n || second[0].RA != n || second[0].RB != eighths(12, 0) {
		t.Fatalf("a ball beside a wall has the rows %+v", second)
	}
	checkRows(t, "in ascending order", w, [][2]int{{3, 5}, {3, 7}, {5, 7}}, append(slices.Clone(second), first...)...)
	checkRows(t, "in another order", w, [][2]int{{5, 7}, {3, 5}}, append(first, second...)...)
}

// Out grows with the depth beyond Slop, up to 4.
func TestOut(t *testing.T) {
	for _, c := range []struct{ depth, out api.F }{
		{1, 0}, {slop / 2, 0}, {slop - 1, 0}, {slop, 0}, {slop + 1, 12}, {slop + 2, 25}, {slop + 5, 63},
		{slop + one/16, fourFifths}, {quarter, 12884901887},
		{slop + 5*one/16 - 1, 17179869170}, {slop + 5*one/16, 4*one - 1}, {slop + 5*one/16 + 1, 4 * one}, {slop + 5*one/16 + 2, 4 * one},
		{half, 4 * one}, {one, 4 * one}, {2 * one, 4 * one},
	} {
		w := of(wall(whole(0, 0)), placed(ball(whole(0, 0), 0), api.V{Y: 2*one - c.depth}, 0))
		if rows := solve.Rows(w, [][2]int{{3, 5}}); len(rows) != 1 || rows[0].Out != c.out {
			t.Errorf("with a depth of %d the rows are %+v, want Out %d", c.depth, rows, c.out)
		}
	}
	deep := of(placed(ball(whole(0, 0), 0), whole(0, 0), 0), ball(whole(0, 0), 0))
	for i := range deep.Bodies {
		deep.Bodies[i].Shape.R = shape.Great
	}
	if rows := solve.Rows(deep, [][2]int{{3, 5}}); len(rows) != 1 || rows[0].Out != 4*one {
		t.Errorf("with a depth of 128 the rows are %+v, want Out 4", rows)
	}
}

func TestTies(t *testing.T) {
	free := block(whole(1, 2), 3)
	base := solve.Tie{B: 1, Normal: whole(1, 0), G: one}
	// with returns base with its offsets, its Off, and G.
	with := func(ra, rb api.V, off, g api.F) solve.Tie {
		tie := base
		tie.RA, tie.RB, tie.Off, tie.G = ra, rb, off, g
		return tie
	}
	facing := func(tie solve.Tie, normal api.V) solve.Tie {
		tie.Normal = normal
		return tie
	}
	swapped := func(tie solve.Tie) solve.Tie {
		tie.A, tie.B = 1, 0
		return tie
	}
	at := func(x, y int) api.Body { return placed(free, whole(x, y), 0) }
	for _, c := range []struct {
		what string
		a, b api.Body
		j    api.Joint
		want solve.Tie
	}{
		{"as long as it is to be", at(0, 0), at(3, 0), api.Joint{A: 3, B: 5, Len: 3 * one}, with(api.V{}, api.V{}, 0, one)},
		{"elsewhere", at(-70, 7), at(-67, 7), api.Joint{A: 3, B: 5, Len: 3 * one}, with(api.V{}, api.V{}, 0, one)},
		{"too long", at(0, 0), at(3, 0), api.Joint{A: 3, B: 5, Len: 3*one - one/16}, with(api.V{}, api.V{}, fourFifths, one)},
		{"too short", at(0, 0), at(3, 0), api.Joint{A: 3, B: 5, Len: 3*one + one/16}, with(api.V{}, api.V{}, -fourFifths, one)},
		{"too long by a unit", at(0, 0), at(3, 0), api.Joint{A: 3, B: 5, Len: 3*one - 1}, with(api.V{}, api.V{}, 12, one)},
		{"too short by a unit", at(0, 0), at(3, 0), api.Joint{A: 3, B: 5, Len: 3*one + 1}, with(api.V{}, api.V{}, -12, one)},
		{"too long by 5/16", at(0, 0), at(3, 0), api.Joint{A: 3, B: 5, Len: 3*one - 5*one/16}, with(api.V{}, api.V{}, 4*one-1, one)},
		{"too short by 5/16", at(0, 0), at(3, 0), api.Joint{A: 3, B: 5, Len: 3*one + 5*one/16}, with(api.V{}, api.V{}, 1-4*one, one)},
		{"a unit more", at(0, 0), at(3, 0), api.Joint{A: 3, B: 5, Len: 3*one - 5*one/16 - 1}, with(api.V{}, api.V{}, 4*one, one)},
		{"a unit less", at(0, 0), at(3, 0), api.Joint{A: 3, B: 5, Len: 3*one + 5*one/16 + 1}, with(api.V{}, api.V{}, -4*one, one)},
		{"much too long", at(0, 0), at(3, 0), api.Joint{A: 3, B: 5}, with(api.V{}, api.V{}, 4*one, one)},
		{"much too short", at(0, 0), at(3, 0), api.Joint{A: 3, B: 5, Len: api.Far}, with(api.V{}, api.V{}, -4*one, one)},
		{"at offsets", at(0, 0), at(8, 0), api.Joint{A: 3, B: 5, At: whole(1, 0), To: whole(-2, 0), Len: 5 * one}, with(whole(1, 0), whole(-2, 0), 0, one)},
		{"to the other side", at(0, 0), at(8, 0), api.Joint{A: 3, B: 5, At: whole(9, 0), To: whole(-9, 0), Len: 10 * one}, facing(with(whole(9, 0), whole(-9, 0), 0, one), whole(-1, 0))},
		{"upward", at(2, 2), at(2, 9), api.Joint{A: 3, B: 5, Len: 7 * one}, facing(with(api.V{}, api.V{}, 0, one), whole(0, 1))},
		{"at a slant", at(0, 0), at(3, 4), api.Joint{A: 3, B: 5, Len: 5 * one}, facing(with(api.V{}, api.V{}, 0, one), api.V{X: threeFifths, Y: fourFifths})},
		{"without a length", at(4, 4), at(4, 4), api.Joint{A: 3, B: 5}, with(api.V{}, api.V{}, 0, one)},
		{"without a length, too short", at(4, 4), at(4, 4), api.Joint{A: 3, B: 5, Len: one / 16}, with(api.V{}, api.V{}, -fourFifths, one)},
		{"from the second body", at(0, 0), at(3, 0), api.Joint{A: 5, B: 3, Len: 3 * one}, swapped(facing(with(api.V{}, api.V{}, 0, one), whole(-1, 0)))},
		{"from the second body, at offsets", at(0, 0), at(8, 0), api.Joint{A: 5, B: 3, At: whole(-1, 0), To: whole(2, 0), Len: 5 * one}, swapped(facing(with(whole(-1, 0), whole(2, 0), 0, one), whole(-1, 0)))},
		{"beside the middle of a", at(0, 0), at(3, 1), api.Joint{A: 3, B: 5, At: whole(0, 1), Len: 3 * one}, with(whole(0, 1), api.V{}, 0, 2454267026)},
		{"beside the middle of b", at(0, 1), at(3, 0), api.Joint{A: 3, B: 5, To: whole(0, 1), Len: 3 * one}, with(api.V{}, whole(0, 1), 0, 2454267026)},
		{"beside both middles", at(0, 0), at(3, 0), api.Joint{A: 3, B: 5, At: whole(0, 2), To: whole(0, 2), Len: 3 * one}, with(whole(0, 2), whole(0, 2), 0, 613566756)},
		{"a turned by a quarter", placed(free, whole(0, 0), quarter), at(5, 1), api.Joint{A: 3, B: 5, At: whole(1, -2), Len: 3 * one}, with(whole(2, 1), api.V{}, 0, 2454267026)},
		{"b turned by a half", at(0, 0), placed(free, whole(5, 0), half), api.Joint{A: 3, B: 5, To: whole(2, 0), Len: 3 * one}, with(api.V{}, whole(-2, 0), 0, one)},
		{"both turned", placed(free, whole(0, 0), half), placed(free, whole(1, 0), 3*quarter), api.Joint{A: 3, B: 5, At: whole(1, 0), To: whole(0, 1), Len: 3 * one}, with(whole(-1, 0), whole(1, 0), 0, one)},
		{"a is static", placed(wall(whole(0, 0)), whole(0, 0), 0), at(3, 0), api.Joint{A: 3, B: 5, At: whole(0, 1), To: whole(0, 1), Len: 3 * one}, with(whole(0, 1), whole(0, 1), 0, fourFifths)},
		{"b is static", at(0, 0), wall(whole(3, 0)), api.Joint{A: 3, B: 5, At: whole(0, 1), To: whole(0, 1), Len: 3 * one}, with(whole(0, 1), whole(0, 1), 0, fourFifths)},
		{"both are static", wall(whole(0, 0)), wall(whole(3, 0)), api.Joint{A: 3, B: 5, Len: 3*one - one/16}, with(api.V{}, api.V{}, fourFifths, 0)},
	} {
		w := held(of(c.a, c.b), []api.Joint{c.j})
		checkValid(t, c.what, w)
		checkTies(t, c.what, w, c.want)
	}
}

func TestTiesInOrder(t *testing.T) {
	checkTies(t, "a new world", world.New())
	w := of(block(whole(0, 0), 0), placed(block(whole(0, 0), 0), whole(4, 0), 0), wall(whole(0, -5)))
	checkTies(t, "no joints", w)
	first := solve.Tie{A: 2, B: 0, Normal: whole(0, 1), G: 2 * one, Off: -4 * one}
	second := solve.Tie{A: 0, B: 1, Normal: whole(1, 0), G: one}
	joints := []api.Joint{{A: 7, B: 3, Len: 9 * one}, {A: 3, B: 5, Len: 4 * one}}
	checkTies(t, "two joints", held(w, joints), first, second)
	slices.Reverse(joints)
	checkTies(t, "the other way round", held(w, joints), second, first)
	checkTies(t, "twice", held(w, slices.Concat(joints, joints)), second, first, second, first)
}

// The way of a joint is so long that the square of its length saturates.
func TestTiesFarApart(t *testing.T) {
	w := held(of(placed(block(whole(0, 0), 0), api.V{X: -api.Far, Y: api.Far}, 0), placed(block(whole(0, 0), 0), api.V{X: api.Far, Y: -api.Far}, 0)),
		[]api.Joint{{A: 3, B: 5}, {A: 3, B: 5, Len: api.Far}})
	checkValid(t, "far apart", w)
	// 2^53 by the root of Most.
	n := fix.Div(2*api.Far, 199032864766430)
	g := fix.Div(one, one)
	tie := solve.Tie{B: 1, Normal: api.V{X: n, Y: -n}, G: g, Off: 4 * one}
	short := tie
	short.Off = -4 * one
	checkTies(t, "far apart", w, tie, short)
}

// A moving is how a body moves.
type moving struct {
	vel  api.V
	spin api.F
}

// A scene is bodies, rows and ties, and what is left of them when they are
// solved: how the bodies move, and the N and T of the rows.
type scene struct {
	what    string
	bodies  []api.Body
	rows    []solve.Row
	ties    []solve.Tie
	moves   []moving
	pressed [][2]api.F
}

func checkScene(t *testing.T, s scene) {
	t.Helper()
	before, rowsBefore, tiesBefore := fmt.Sprint(s.bodies), slices.Clone(s.rows), fmt.Sprint(s.ties)
	want := slices.Clone(s.bodies)
	for i, m := range s.moves {
		want[i].Vel, want[i].Spin = m.vel, m.spin
	}
	got := solve.Solve(s.bodies, s.rows, s.ties)
	if !sameBodies(got, want) {
		t.Errorf("%s: Solve returns %+v, want %+v", s.what, got, want)
	}
	for i, p := range s.pressed {
		rowsBefore[i].N, rowsBefore[i].T = p[0], p[1]
	}
	if !slices.Equal(s.rows, rowsBefore) {
		t.Errorf("%s: the rows are %+v, want %+v", s.what, s.rows, rowsBefore)
	}
	if fmt.Sprint(s.bodies) != before || fmt.Sprint(s.ties) != tiesBefore {
		t.Errorf("%s: Solve modifies the bodies or the ties", s.what)
	}
}

// pair returns two blocks that move like that.
func pair(a, b api.V) []api.Body {
	return []api.Body{block(a, 0), block(b, 0)}
}

// slide returns a wall and a block that moves like that.
func slide(vel api.V) []api.Body {
	return []api.Body{wall(whole(0, 0)), block(vel, 0)}
}

func TestSolveOfRows(t *testing.T) {
	// ahead is a row between the middles of two blocks, and under one below a
	// block, on a wall. Each N and T that it has is applied ahead.
	ahead := func(out, n, along api.F) []solve.Row {
		return []solve.Row{{B: 1, Normal: whole(1, 0), RA: whole(1, 0), RB: whole(-1, 0), GN: one, Out: out, N: n, T: along}}
	}
	under := func(n, along api.F) []solve.Row {
		return []solve.Row{{B: 1, Normal: whole(0, 1), GN: 2 * one, GT: 2 * one, N: n, T: along}}
	}
	stiff := solve.Row{B: 1, Normal: whole(0, 1), N: one, T: 5 * one}
	for _, s := range []scene{
		{"nothing to do", pair(whole(1, 2), whole(3, 4)), nil, nil, nil, nil},
		{"head on", pair(whole(1, 7), whole(-1, 9)), ahead(0, 0, 0), nil, []moving{{whole(0, 7), 0}, {whole(0, 9), 0}}, [][2]api.F{{2 * one, 0}}},
		{"one is still", pair(whole(2, 0), whole(0, 0)), ahead(0, 0, 0), nil, []moving{{whole(1, 0), 0}, {whole(1, 0), 0}}, [][2]api.F{{2 * one, 0}}},
		{"out", pair(whole(1, 0), whole(-1, 0)), ahead(one, 0, 0), nil, []moving{{eighths(-4, 0), 0}, {eighths(4, 0), 0}}, [][2]api.F{{3 * one, 0}}},
		{"out, from rest", pair(whole(0, 0), whole(0, 0)), ahead(3*one, 0, 0), nil, []moving{{eighths(-12, 0), 0}, {eighths(12, 0), 0}}, [][2]api.F{{3 * one, 0}}},
		{"at rest", pair(whole(0, 0), whole(0, 0)), ahead(0, 0, 0), nil, nil, nil},
		{"parting", pair(whole(-1, 0), whole(1, 0)), ahead(0, 0, 0), nil, nil, nil},
		{"parting fast enough", pair(whole(-1, 0), whole(1, 0)), ahead(2*one, 0, 0), nil, nil, nil},
		{"parting, too slowly", pair(whole(-1, 0), whole(1, 0)), ahead(4*one, 0, 0), nil, []moving{{whole(-2, 0), 0}, {whole(2, 0), 0}}, [][2]api.F{{2 * one, 0}}},
		{"parting, after a push", pair(whole(-1, 0), whole(1, 0)), ahead(0, 2*one, 0), nil, nil, [][2]api.F{{0, 0}}},
		{"after a push that is enough", pair(whole(1, 0), whole(-1, 0)), ahead(0, 2*one, 0), nil, []moving{{whole(0, 0), 0}, {whole(0, 0), 0}}, nil},
		{"after a push that isn't", pair(whole(1, 0), whole(-1, 0)), ahead(0, one, 0), nil, []moving{{whole(0, 0), 0}, {whole(0, 0), 0}}, [][2]api.F{{2 * one, 0}}},
		{"after a push that is too much", pair(whole(1, 0), whole(-1, 0)), ahead(0, 3*one, 0), nil, []moving{{whole(0, 0), 0}, {whole(0, 0), 0}}, [][2]api.F{{2 * one, 0}}},
		{"after a push that spins them", pair(whole(1, 0), whole(-1, 0)), ahead(0, 2*one, one), nil, []moving{{eighths(0, -4), -3 * quarter}, {eighths(0, 4), -3 * quarter}}, nil},
		{"sliding", slide(whole(8, -2)), under(0, 0), nil, []moving{{}, {whole(7, 0), 0}}, [][2]api.F{{4 * one, 2 * one}}},
		{"sliding the other way", slide(whole(-8, -2)), under(0, 0), nil, []moving{{}, {whole(-7, 0), 0}}, [][2]api.F{{4 * one, -2 * one}}},
		{"sliding slowly", slide(eighths(4, -16)), under(0, 0), nil, []moving{{}, {whole(0, 0), 0}}, [][2]api.F{{4 * one, one}}},
		{"sliding without weight", slide(whole(8, 0)), under(0, 0), nil, nil, nil},
		{"sliding and rising", slide(whole(8, 1)), under(0, 0), nil, nil, nil},
		{"sliding and rising, after a push", slide(whole(8, 1)), under(2*one, 0), nil, nil, [][2]api.F{{0, 0}}},
		{"T is half of N at most", slide(whole(0, 0)), []solve.Row{stiff}, nil, []moving{{}, {eighths(-2, 4), 0}}, [][2]api.F{{one, half}}},
		{"two rows, one after another", slide(whole(0, -6)), append(under(0, 0), under(0, 0)...), nil, []moving{{}, {whole(0, 0), 0}}, [][2]api.F{{12 * one, 0}, {0, 0}}},
	} {
		checkScene(t, s)
	}
}

func TestSolveOfTies(t *testing.T) {
	// level is a tie between the middles of two bodies.
	level := func(a, b int, off api.F) solve.Tie {
		return solve.Tie{A: a, B: b, Normal: whole(1, 0), G: one, Off: off}
	}
	under := solve.Row{B: 1, Normal: whole(1, 0), GN: one}
	// shared is nearly 4/3: each of the 8 rounds leaves a quarter of what is missing.
	const shared = 21845 << 18
	for _, s := range []scene{
		{"parting", pair(whole(0, 5), whole(2, 6)), nil, []solve.Tie{level(0, 1, 0)}, []moving{{whole(1, 5), 0}, {whole(1, 6), 0}}, nil},
		{"nearing", pair(whole(2, 5), whole(0, 6)), nil, []solve.Tie{level(0, 1, 0)}, []moving{{whole(1, 5), 0}, {whole(1, 6), 0}}, nil},
		{"from the second body", pair(whole(0, 5), whole(2, 6)), nil, []solve.Tie{level(1, 0, 0)}, []moving{{whole(1, 5), 0}, {whole(1, 6), 0}}, nil},
		{"too long", pair(whole(0, 5), whole(2, 6)), nil, []solve.Tie{level(0, 1, one)}, []moving{{eighths(12, 40), 0}, {eighths(4, 48), 0}}, nil},
		{"too short", pair(whole(0, 5), whole(2, 6)), nil, []solve.Tie{level(0, 1, -one)}, []moving{{eighths(4, 40), 0}, {eighths(12, 48), 0}}, nil},
		{"too long, from the second body", pair(whole(0, 0), whole(0, 0)), nil, []solve.Tie{level(1, 0, one)}, []moving{{eighths(-4, 0), 0}, {eighths(4, 0), 0}}, nil},
		{"without an effective mass", pair(whole(0, 5), whole(2, 6)), nil, []solve.Tie{{B: 1, Normal: whole(1, 0), Off: one}}, nil, nil},
		{"two ties, one after another", []api.Body{block(whole(4, 0), 0), block(whole(0, 0), 0), block(whole(0, 0), 0)}, nil, []solve.Tie{level(0, 1, 0), level(1, 2, 0)},
			[]moving{{api.V{X: shared + 1<<18}, 0}, {api.V{X: shared}, 0}, {api.V{X: shared}, 0}}, nil},
		{"ties go before rows", pair(whole(1, 0), whole(-1, 0)), []solve.Row{under}, []solve.Tie{level(0, 1, 0)}, []moving{{whole(0, 0), 0}, {whole(0, 0), 0}}, [][2]api.F{{0, 0}}},
		{"rows have the last word", pair(whole(0, 0), whole(0, 0)), []solve.Row{under}, []solve.Tie{level(0, 1, one)}, []moving{{whole(0, 0), 0}, {whole(0, 0), 0}}, [][2]api.F{{8 * one, 0}}},
	} {
		checkScene(t, s)
	}
}

// The numbers of these scenes are computed from the chapter by another program.
func TestSolveOfScenes(t *testing.T) {
	w, fallen := onWall()
	fallen[0].A, fallen[0].B, fallen[0].Out = 0, 1, 0
	fallen[1].A, fallen[1].B, fallen[1].Out = 0, 1, 0
	pushed := slices.Clone(fallen)
	pushed[0].N, pushed[0].T, pushed[0].Out = one, quarter, one
	pushed[1].N, pushed[1].T = 3*one, -one
	falling := []api.Body{w.Bodies[1], w.Bodies[2]}
	chain := []api.Body{block(whole(1, 2), -one), wall(whole(9, 9)), ball(eighths(-24, 6), 2*one)}
	ties := []solve.Tie{
		{A: 2, B: 0, Normal: api.V{X: threeFifths, Y: fourFifths}, RA: whole(1, 0), RB: whole(0, -1), G: 3006477107, Off: half},
		{A: 0, B: 1, Normal: whole(0, -1), RA: whole(-1, 1), G: half, Off: -quarter},
	}
	rows := []solve.Row{{A: 0, B: 2, Normal: whole(1, 0), RA: eighths(8, 4), RB: whole(-1, 0), GN: one, GT: 3 * quarter, Out: eighth, N: one, T: -3 * eighth}}
	for _, s := range []scene{
		{"a block falls on a wall", falling, fallen, nil, []moving{{}, {api.V{X: 52381580, Y: 32633705}, -32633707}}, [][2]api.F{{14423328740, 7249269979}, {20001677040, 1235901458}}},
		{"after pushes", falling, pushed, nil, []moving{{}, {api.V{X: 2159558044, Y: 2150006563}, -2150006565}}, [][2]api.F{{20059459964, 5569076255}, {18600291530, -1298257740}}},
		{"two ties and a row", chain, rows, ties, []moving{{api.V{X: -6037327998, Y: 2680647972}, 1613442276}, {}, {api.V{X: -6307158409, Y: 5535323092}, 1242964837}}, [][2]api.F{{22266080979, 9405272594}}},
	} {
		checkScene(t, s)
	}
}

func TestSolveLimitsAtTheEnd(t *testing.T) {
	fast := api.V{X: api.Fast, Y: -api.Fast}
	// up pushes the middle of the second body, and spin its side.
	up := func(n, gn api.F) []solve.Row {
		return []solve.Row{{B: 1, Normal: whole(0, 1), GN: gn, N: n}}
	}
	spin := func(x int) []solve.Row {
		return []solve.Row{{B: 1, Normal: whole(0, 1), RB: whole(x, 0), N: 4 * one}}
	}
	whirling := func(spin api.F) []api.Body {
		return []api.Body{wall(whole(0, 0)), block(whole(0, 0), spin)}
	}
	for _, s := range []scene{
		{"as fast as may be", slide(fast), nil, nil, nil, nil},
		{"up to the limit", slide(api.V{Y: api.Fast - 2*one}), up(4*one, 0), nil, []moving{{}, {api.V{Y: api.Fast}, 0}}, nil},
		{"a unit beyond it", slide(api.V{Y: api.Fast - 2*one + 1}), up(4*one, 0), nil, []moving{{}, {api.V{Y: api.Fast}, 0}}, nil},
		{"far beyond it", slide(fast), up(api.Most, 0), nil, []moving{{}, {api.V{X: api.Fast, Y: api.Fast}, 0}}, nil},
		{"down, far beyond it", []api.Body{block(fast, 0), wall(whole(0, 0))}, up(api.Most, 0), nil, []moving{{fast, 0}, {}}, nil},
		{"beyond it, and back", slide(api.V{Y: api.Fast}), up(4*one, 2*one), nil, nil, [][2]api.F{{0, 0}}},
		{"whirling up to the limit", whirling(api.Whirl - 3*one), spin(1), nil, []moving{{}, {whole(0, 2), api.Whirl}}, nil},
		{"whirling beyond it", whirling(api.Whirl - 3*one + 1), spin(1), nil, []moving{{}, {whole(0, 2), api.Whirl}}, nil},
		{"whirling the other way", whirling(3*one - api.Whirl), spin(-1), nil, []moving{{}, {whole(0, 2), -api.Whirl}}, nil},
		{"whirling the other way, beyond it", whirling(-api.Whirl), spin(-1), nil, []moving{{}, {whole(0, 2), -api.Whirl}}, nil},
	} {
		checkScene(t, s)
	}
	wild := block(api.V{X: lowest, Y: api.Most}, lowest)
	still := wall(whole(0, 0))
	still.Spin = api.Most
	got := solve.Solve([]api.Body{wild, still}, nil, nil)
	wild.Vel, wild.Spin, still.Spin = api.V{X: -api.Fast, Y: api.Fast}, -api.Whirl, api.Whirl
	if want := []api.Body{wild, still}; !sameBodies(got, want) {
		t.Errorf("without rows and ties Solve returns %+v, want %+v", got, want)
	}
}

// A body with density 0 isn't moved, however hard it is pushed.
func TestSolveOfStaticBodies(t *testing.T) {
	standing := []api.Body{wall(whole(0, 0)), wall(whole(1, 0))}
	n, along := api.V{X: threeFifths, Y: fourFifths}, whole(1, 0)
	ra, rb := whole(2, 1), whole(-2, -1)
	for _, s := range []scene{
		{"without an effective mass", standing, []solve.Row{{B: 1, Normal: n, RA: ra, RB: rb, Out: 4 * one}}, []solve.Tie{{B: 1, Normal: n, RA: ra, RB: rb, Off: 4 * one}}, nil, nil},
		{"with one", standing, []solve.Row{{B: 1, Normal: along, RA: ra, RB: rb, GN: one, GT: one, Out: 4 * one}}, []solve.Tie{{B: 1, Normal: n, RA: ra, RB: rb, G: api.Most, Off: 4 * one}}, nil, [][2]api.F{{32 * one, 0}}},
		{"after pushes", standing, []solve.Row{{B: 1, Normal: along, RA: ra, RB: rb, N: api.Most, T: api.Least}}, nil, nil, [][2]api.F{{api.Most, -(1<<62 - 1)}}},
		{"by itself", standing, []solve.Row{{A: 1, B: 1, Normal: n, RA: ra, RB: rb, GN: one, N: one}}, []solve.Tie{{Normal: n, G: one, Off: one}}, nil, nil},
	} {
		checkScene(t, s)
	}
	hit := []api.Body{wall(whole(0, 0)), block(whole(3, -5), 7*one), wall(whole(0, 9))}
	rows := []solve.Row{{B: 1, Normal: whole(0, 1), RA: ra, RB: rb, GN: half, GT: half, N: 9 * one, T: one}, {A: 1, B: 2, Normal: whole(0, 1), RA: rb, RB: ra, GN: one, GT: one, Out: one}}
	ties := []solve.Tie{{A: 2, B: 1, Normal: n, RA: ra, RB: rb, G: half, Off: -one}}
	got := solve.Solve(hit, rows, ties)
	if !sameBodies(got[:1], hit[:1]) || !sameBodies(got[2:], hit[2:]) || sameBodies(got, hit) {
		t.Errorf("a block between two walls: %+v", got)
	}
}

func TestContacts(t *testing.T) {
	w := of(block(whole(0, 0), 0), wall(whole(0, 0)), ball(whole(0, 0), 0))
	rows := []solve.Row{
		{A: 0, B: 1, Key: 36, Normal: whole(1, 0), RA: whole(2, 3), RB: whole(4, 5), GN: 6, GT: 7, Out: 8, N: 9, T: -10},
		{A: 0, B: 1, Key: 37, GN: 1, GT: 1, Out: 1},
		{A: 1, B: 2, Key: 16, N: 1},
		{A: 0, B: 2, Key: 5, T: -1},
		{A: 0, B: 2, T: api.Most, N: api.Most},
		{A: 1, B: 2, Key: 17, T: 1},
		{A: 1, B: 2, Key: 17, T: 1},
		{},
	}
	want := []api.Contact{
		{A: 3, B: 5, Key: 36, N: 9, T: -10}, {A: 5, B: 7, Key: 16, N: 1}, {A: 3, B: 7, Key: 5, T: -1},
		{A: 3, B: 7, T: api.Most, N: api.Most}, {A: 5, B: 7, Key: 17, T: 1}, {A: 5, B: 7, Key: 17, T: 1},
	}
	if got := solve.Contacts(w, rows); !slices.Equal(got, want) {
		t.Errorf("Contacts returns %+v, want %+v", got, want)
	}
	for _, none := range [][]solve.Row{nil, {}, rows[1:2], make([]solve.Row, 9)} {
		if got := solve.Contacts(w, none); len(got) != 0 {
			t.Errorf("Contacts of %+v returns %+v", none, got)
		}
	}
}

// spoil changes all bodies, and what may lie behind them.
func spoil(bodies []api.Body) {
	for i := range bodies {
		for k := range bodies[i].Shape.P {
			bodies[i].Shape.P[k] = whole(77, 77)
		}
		_ = append(bodies[i].Shape.P, whole(78, 78))
		bodies[i] = api.Body{ID: 79}
	}
	_ = append(bodies, api.Body{ID: 80})
}

// Solve returns memory of its own, and modifies nothing but N and T of the rows.
func TestSolveReturnsItsOwnMemory(t *testing.T) {
	w, _ := onWall()
	for _, rows := range [][]solve.Row{nil, solve.Rows(w, [][2]int{{5, 7}})} {
		room := append(slices.Clone(w.Bodies), api.Body{ID: 81})
		before := fmt.Sprint(room)
		one := solve.Solve(room[:3], slices.Clone(rows), nil)
		other := solve.Solve(room[:3], slices.Clone(rows), nil)
		if len(one) != 3 || !sameBodies(one, other) {
			t.Fatalf("Solve returns %+v, and then %+v", one, other)
		}
		told := fmt.Sprint(other)
		spoil(one)
		if fmt.Sprint(room) != before {
			t.Errorf("Solve of %d rows returns memory of the bodies that it is given", len(rows))
		}
		if fmt.Sprint(other) != told {
			t.Errorf("Solve of %d rows returns the same memory twice", len(rows))
		}
	}
	if got := solve.Solve(nil, nil, nil); len(got) != 0 {
		t.Errorf("Solve of no bodies returns %+v", got)
	}
}

// The world and the pairs stay as they are.
func TestNothingIsModified(t *testing.T) {
	w, _ := onWall()
	w = held(w, []api.Joint{{A: 7, B: 3, At: whole(1, 1), To: whole(0, -1), Len: one}}, api.Contact{A: 5, B: 7, Key: 36, N: 5, T: 1})
	pairs := [][2]int{{3, 5}, {5, 7}}
	before := fmt.Sprint(w, pairs)
	rows, ties := solve.Rows(w, pairs), solve.Ties(w)
	solve.Solve(w.Bodies, rows, ties)
	told := fmt.Sprint(rows)
	contacts := solve.Contacts(w, rows)
	if fmt.Sprint(w, pairs) != before || fmt.Sprint(rows) != told {
		t.Errorf("the world, the pairs or the rows are modified: %+v %+v %+v", w, pairs, rows)
	}
	if len(rows) != 2 || len(ties) != 1 || len(contacts) != 2 {
		t.Errorf("%d rows, %d ties and %d contacts", len(rows), len(ties), len(contacts))
	}
}
