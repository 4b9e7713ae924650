package step_test

import (
	"slices"
	"testing"

	"bagatelle/api"
	"bagatelle/fix"
	"bagatelle/shape"
	"bagatelle/step"
	"bagatelle/turn"
	"bagatelle/world"
)

const (
	// lowest is -2^63, which counts as Least.
	lowest api.F = -1 << 63
	one          = api.One
	half         = one / 2
	eighth       = one / 8
	slop         = one / 64
	// last is the Tick of a world that takes no more batches.
	last = 1 << 62
)

func whole(x, y int) api.V {
	return api.V{X: fix.Of(x), Y: fix.Of(y)}
}

// eighths returns the vector of so many eighths.
func eighths(x, y int) api.V {
	return api.V{X: fix.Part(x, 8), Y: fix.Part(y, 8)}
}

func disc() api.Shape {
	return api.Shape{Kind: api.Circle, R: one}
}

func square() api.Shape {
	return shape.Box(one, one)
}

// block has the mass 2, so that its Move is 1/2. ball has that of Pi.
func block(at, vel api.V) api.Body {
	return api.Body{Pos: at, Vel: vel, Density: half, Shape: square()}
}

func ball(at, vel api.V) api.Body {
	return api.Body{Pos: at, Vel: vel, Density: one, Shape: disc()}
}

// wall is a static square.
func wall(at api.V) api.Body {
	return api.Body{Pos: at, Shape: square()}
}

// turned returns b at an angle.
func turned(b api.Body, angle api.F) api.Body {
	b.Angle = angle
	return b
}

// of returns a world of these bodies. Their IDs are 3, 5, 7 and so on, so that
// none is an index.
func of(bodies ...api.Body) api.World {
	w := api.World{NextBody: 3, NextJoint: 1}
	for _, b := range bodies {
		b.ID = w.NextBody
		w.Bodies = append(w.Bodies, b)
		w.NextBody += 2
	}
	return w
}

// under returns w with that gravity.
func under(gravity api.V, w api.World) api.World {
	w.Gravity = gravity
	return w
}

func pull(gravity api.V) api.Order {
	return api.Order{Kind: api.Pull, Vel: gravity}
}

func push(id int, by api.V, spin api.F) api.Order {
	return api.Order{Kind: api.Push, ID: id, Vel: by, Spin: spin}
}

func add(b api.Body) api.Order {
	return api.Order{Kind: api.AddBody, Pos: b.Pos, Vel: b.Vel, Angle: b.Angle, Spin: b.Spin, Density: b.Density, Shape: b.Shape}
}

func join(a, b int, at, to api.V, length api.F) api.Order {
	return api.Order{Kind: api.AddJoint, A: a, B: b, Pos: at, Vel: to, Len: length}
}

func remove(id int) api.Order {
	return api.Order{Kind: api.RemoveBody, ID: id}
}

func cut(id int) api.Order {
	return api.Order{Kind: api.RemoveJoint, ID: id}
}

// checkValid checks P12.2.
func checkValid(t *testing.T, what string, w api.World) {
	t.Helper()
	if !world.Right(w) {
		t.Fatalf("%s: the world isn't valid: %+v", what, w)
	}
	for _, b := range w.Bodies {
		if !turn.Tabled(turn.Of(b.Angle)) {
			t.Fatalf("%s: a body has no rotation of the table: %+v", what, b)
		}
	}
}

// stepped returns the world after a tick of w with l, which must be acceptable.
func stepped(t *testing.T, what string, w api.World, l ...api.Order) api.World {
	t.Helper()
	checkValid(t, what+", ahead", w)
	got, e := step.Step(w, l)
	if e != api.OK {
		t.Fatalf("%s: Step returns %d", what, e)
	}
	checkValid(t, what, got)
	return got
}

func checkSame(t *testing.T, what string, got, want api.World) {
	t.Helper()
	if !world.Same(got, want) {
		t.Errorf("%s: the world is %+v, want %+v", what, got, want)
	}
}

func TestPairs(t *testing.T) {
	tilted := turned(block(whole(0, 0), whole(0, 0)), eighth)
	light := block(whole(0, 0), whole(0, 0))
	light.Density = 1
	at := func(x, y int) api.Body { return block(eighths(x, y), whole(0, 0)) }
	joined := of(at(0, 0), at(8, 0), at(80, 0))
	joined.Joints, joined.NextJoint = []api.Joint{{ID: 1, A: 3, B: 5}, {ID: 2, A: 3, B: 7}}, 3
	joined.Contacts = []api.Contact{{A: 5, B: 7, N: 1}}
	for _, c := range []struct {
		what string
		w    api.World
		want [][2]int
	}{
		{"a new world", world.New(), nil},
		{"one body", of(at(0, 0)), nil},
		{"two that overlap", of(at(0, 0), at(8, 8)), [][2]int{{3, 5}}},
		{"in the same place", of(at(5, 5), at(5, 5)), [][2]int{{3, 5}}},
		{"from right to left", of(at(8, 8), at(0, 0)), [][2]int{{3, 5}}},
		{"border to border", of(at(0, 0), at(16, 3)), [][2]int{{3, 5}}},
		{"border to border, above", of(at(0, 0), at(3, 16)), [][2]int{{3, 5}}},
		{"corner to corner", of(at(0, 0), at(-16, 16)), [][2]int{{3, 5}}},
		{"a unit apart", of(at(0, 0), block(api.V{X: 2*one + 1}, whole(0, 0))), nil},
		{"a unit apart, above", of(at(0, 0), block(api.V{Y: 2*one + 1}, whole(0, 0))), nil},
		{"discs apart whose boxes meet", of(ball(whole(0, 0), whole(0, 0)), ball(eighths(15, 15), whole(0, 0))), [][2]int{{3, 5}}},
		{"as far as a corner reaches", of(tilted, at(19, 0)), [][2]int{{3, 5}}},
		{"farther than a corner reaches", of(tilted, at(20, 0)), nil},
		{"both static", of(wall(whole(0, 0)), wall(whole(1, 0))), nil},
		{"the first one is static", of(wall(whole(0, 0)), at(8, 0)), [][2]int{{3, 5}}},
		{"the second one is static", of(at(8, 0), wall(whole(0, 0))), [][2]int{{3, 5}}},
		{"the least density", of(wall(whole(0, 0)), light), [][2]int{{3, 5}}},
		{"three", of(at(16, 0), at(8, 0), at(0, 0)), [][2]int{{3, 5}, {3, 7}, {5, 7}}},
		{"three in a row", of(at(24, 0), at(0, 0), at(12, 0)), [][2]int{{3, 7}, {5, 7}}},
		{"two walls and two blocks", of(wall(whole(0, 0)), at(8, 0), wall(whole(1, 1)), at(0, 8)), [][2]int{{3, 5}, {3, 9}, {5, 7}, {5, 9}, {7, 9}}},
		{"apart, but not for long", under(whole(99, 0), of(block(whole(0, 0), whole(64, 0)), block(whole(3, 0), whole(-64, 0)))), nil},
		{"joints and contacts", joined, [][2]int{{3, 5}}},
		{"at the end", of(block(api.V{X: api.Far, Y: -api.Far}, whole(0, 0)), ball(api.V{X: api.Far, Y: -api.Far}, whole(0, 0))), [][2]int{{3, 5}}},
	} {
		checkValid(t, c.what, c.w)
		if got := step.Pairs(c.w); !slices.Equal(got, c.want) {
			t.Errorf("%s: Pairs returns %v, want %v", c.what, got, c.want)
		}
	}
}

// As many bodies as there may be, each one with its border at that of the next
// one. The later ones are further to the left.
func TestPairsOfMany(t *testing.T) {
	w := world.New()
	var want [][2]int
	for i := range api.MaxBodies {
		if _, e := world.AddBody(&w, ball(whole(-2*i, 0), whole(0, 0))); e != api.OK {
			t.Fatal(e)
		}
		if i > 0 {
			want = append(want, [2]int{i, i + 1})
		}
	}
	if got := step.Pairs(w); !slices.Equal(got, want) {
		t.Errorf("Pairs returns %d pairs: %v", len(got), got)
	}
	if got := stepped(t, "as many bodies as there may be", w); len(got.Contacts) != 0 || len(got.Bodies) != api.MaxBodies {
		t.Errorf("%d bodies have %d contacts, want none", len(got.Bodies), len(got.Contacts))
	}
}

// The velocity after a tick of a body alone, and how far it goes in it.
func TestGravity(t *testing.T) {
	for _, c := range []struct {
		what             string
		gravity, vel     api.V
		wantVel, wantWay api.V
	}{
		{"none", whole(0, 0), whole(0, 0), whole(0, 0), whole(0, 0)},
		{"-10", whole(0, -10), whole(0, 0), api.V{Y: -671088640}, api.V{Y: -10485760}},
		{"-64", whole(0, -64), whole(0, 0), whole(0, -1), api.V{Y: -one / 64}},
		{"both components", whole(64, -128), whole(3, 5), whole(4, 3), api.V{X: 4 * one / 64, Y: 3 * one / 64}},
		{"against the velocity", whole(-64, 64), whole(1, -1), whole(0, 0), whole(0, 0)},
		{"no gravity", whole(0, 0), whole(64, -32), whole(64, -32), api.V{X: one, Y: -half}},
		{"rounded toward 0", api.V{X: 63, Y: -63}, whole(0, 0), whole(0, 0), whole(0, 0)},
		{"a unit", api.V{X: 64, Y: -64}, whole(0, 0), api.V{X: 1, Y: -1}, whole(0, 0)},
		{"rounded to a unit", api.V{X: 127, Y: -127}, whole(0, 0), api.V{X: 1, Y: -1}, whole(0, 0)},
		{"and added to others", api.V{X: 127, Y: -127}, api.V{X: 62, Y: -63}, api.V{X: 63, Y: -64}, api.V{Y: -1}},
		{"not rounded with others", api.V{X: 32, Y: -32}, api.V{X: 127, Y: -127}, api.V{X: 127, Y: -127}, api.V{X: 1, Y: -1}},
		{"up to the limit", api.V{X: 64, Y: -64}, api.V{X: api.Fast - 1, Y: 1 - api.Fast}, api.V{X: api.Fast, Y: -api.Fast}, api.V{X: api.Fast / 64, Y: -api.Fast / 64}},
		{"beyond the limit", api.V{X: 128, Y: -128}, api.V{X: api.Fast - 1, Y: 1 - api.Fast}, api.V{X: api.Fast, Y: -api.Fast}, api.V{X: api.Fast / 64, Y: -api.Fast / 64}},
		{"the greatest one", api.V{X: api.Fast, Y: -api.Fast}, api.V{X: api.Fast, Y: -api.Fast}, api.V{X: api.Fast, Y: -api.Fast}, api.V{X: api.Fast / 64, Y: -api.Fast / 64}},
		{"the other way", api.V{X: -api.Fast, Y: api.Fast}, api.V{X: api.Fast, Y: -api.Fast}, api.V{X: 1 << 38 * 63, Y: -1 << 38 * 63}, api.V{X: 1 << 32 * 63, Y: -1 << 32 * 63}},
		{"one component at the limit", whole(-64, -64), api.V{X: -api.Fast, Y: api.Fast}, api.V{X: -api.Fast, Y: api.Fast - one}, api.V{X: -api.Fast / 64, Y: (api.Fast - one) / 64}},
	} {
		// It is the same for a body of nearly no mass, far away.
		light := block(whole(-2048, 2048), c.vel)
		light.Density = 1
		w := under(c.gravity, of(block(whole(0, 0), c.vel), light))
		want := world.Copy(w)
		want.Tick = 1
		for i, b := range w.Bodies {
			want.Bodies[i].Vel = c.wantVel
			want.Bodies[i].Pos = api.V{X: b.Pos.X + c.wantWay.X, Y: b.Pos.Y + c.wantWay.Y}
		}
		checkSame(t, c.what, stepped(t, c.what, w), want)
	}
}

// Gravity makes no body faster than Fast ahead of solving, either: a joint that
// holds both bodies leaves each one the half of Fast and of what the other one
// has by gravity.
func TestGravityIsLimitedAheadOfSolving(t *testing.T) {
	for _, sign := range []api.F{1, -1} {
		gravity := api.V{X: sign * api.Fast}
		w := under(gravity, of(block(whole(0, 0), gravity), block(whole(4, 0), whole(0, 0))))
		got := stepped(t, "a fast pair", w, join(3, 5, whole(0, 0), whole(0, 0), 4*one))
		want := api.V{X: sign * (1<<43 + 1<<37)}
		if got.Bodies[0].Vel != want || got.Bodies[1].Vel != want {
			t.Errorf("the velocities of both are %v and %v, want %v", got.Bodies[0].Vel, got.Bodies[1].Vel, want)
		}
	}
}

// The position after a tick of a body alone.
func TestPositions(t *testing.T) {
	for _, c := range []struct {
		what           string
		pos, vel, want api.V
	}{
		{"at rest", whole(5, -7), whole(0, 0), whole(5, -7)},
		{"a 64th of the velocity", whole(5, -7), whole(64, -128), whole(6, -9)},
		{"rounded toward 0", api.V{X: 100, Y: 100}, api.V{X: 63, Y: -63}, api.V{X: 100, Y: 100}},
		{"a unit", api.V{X: 100, Y: 100}, api.V{X: 64, Y: -64}, api.V{X: 101, Y: 99}},
		{"rounded to a unit", api.V{X: 100, Y: -100}, api.V{X: 127, Y: -127}, api.V{X: 101, Y: -101}},
		{"up to the limit", api.V{X: api.Far - 1, Y: 1 - api.Far}, api.V{X: 64, Y: -64}, api.V{X: api.Far, Y: -api.Far}},
		{"beyond the limit", api.V{X: api.Far - 1, Y: 1 - api.Far}, api.V{X: 128, Y: -128}, api.V{X: api.Far, Y: -api.Far}},
		{"beyond it, the other way", api.V{X: 1 - api.Far, Y: api.Far - 1}, api.V{X: -128, Y: 128}, api.V{X: -api.Far, Y: api.Far}},
		{"as fast as may be", api.V{X: api.Far, Y: -api.Far}, api.V{X: api.Fast, Y: -api.Fast}, api.V{X: api.Far, Y: -api.Far}},
		{"as fast as may be, back", api.V{X: api.Far, Y: -api.Far}, api.V{X: -api.Fast, Y: api.Fast}, api.V{X: api.Far - 1<<38, Y: 1<<38 - api.Far}},
		{"one component at the limit", api.V{X: api.Far}, whole(64, 64), api.V{X: api.Far, Y: one}},
	} {
		w := of(ball(c.pos, c.vel))
		want := world.Copy(w)
		want.Tick, want.Bodies[0].Pos = 1, c.want
		checkSame(t, c.what, stepped(t, c.what, w), want)
	}
}

// The angle after a tick of a body alone. A Spin of One is about 10680707 units
// of turns in a tick.
func TestAngles(t *testing.T) {
	for _, c := range []struct {
		what              string
		angle, spin, want api.F
	}{
		{"without a spin", 7, 0, 7},
		{"to the left", 7, one, 10680714},
		{"to the right", 10680714, -one, 7},
		{"a turn in a unit of time", half, 26986075409, half + one/64},
		{"as fast as may be", 0, api.Whirl, 2734261104},
		{"as fast as may be, to the right", 0, -api.Whirl, one - 2734261104},
		{"rounded toward 0", 7, 402, 7},
		{"rounded toward 0, to the right", 7, -402, 7},
		{"a unit", 7, 403, 8},
		{"a unit, to the right", 7, -403, 6},
		{"up to a whole turn", one - 2, 403, one - 1},
		{"a whole turn", one - 1, 403, 0},
		{"more than a whole turn", one - 1, one, 10680706},
		{"more than a whole turn, by far", one - 1, api.Whirl, 2734261103},
		{"down to 0", 1, -403, 0},
		{"below 0", 0, -403, one - 1},
		{"far below 0", 0, -one, one - 10680707},
		{"twice as far", 5, -2 * one, one - 21361409},
	} {
		b := turned(ball(whole(0, 0), whole(0, 0)), c.angle)
		b.Spin = c.spin
		w := of(b)
		want := world.Copy(w)
		want.Tick, want.Bodies[0].Angle = 1, c.want
		checkSame(t, c.what, stepped(t, c.what, w), want)
	}
}

// Static bodies stay as they are: nothing pulls, hits or draws them.
func TestStaticBodies(t *testing.T) {
	w := under(whole(50, -50), of(turned(wall(whole(1, 2)), one-1), wall(api.V{X: api.Far, Y: -api.Far}), block(whole(2, 3), whole(-99, -99)), wall(whole(2, 2))))
	w = stepped(t, "static bodies", w, join(3, 7, whole(1, 1), whole(0, 0), 9*one), push(3, whole(9, 9), one), push(5, whole(9, 9), one))
	for range 20 {
		w = stepped(t, "static bodies", w)
	}
	for i, want := range map[int]api.Body{0: turned(wall(whole(1, 2)), one-1), 1: wall(api.V{X: api.Far, Y: -api.Far}), 3: wall(whole(2, 2))} {
		want.ID = 3 + 2*i
		checkSame(t, "a static body", api.World{Bodies: w.Bodies[i : i+1]}, api.World{Bodies: []api.Body{want}})
	}
	if b := w.Bodies[2]; b.Pos == whole(2, 3) || b.Vel == whole(-99, -99) {
		t.Errorf("the block stays as it is: %+v", b)
	}
}

// Orders are executed ahead of the rest of the tick.
func TestOrdersGoFirst(t *testing.T) {
	still := whole(0, 0)
	pair := of(block(still, still), block(whole(4, 0), still))
	pair.Joints, pair.NextJoint = []api.Joint{{ID: 4, A: 3, B: 5, Len: 3 * one}}, 5
	cutPair := world.Copy(pair)
	cutPair.Joints = nil
	// placed returns w at its next tick, with the body of that index as given.
	placed := func(w api.World, i int, pos, vel api.V) api.World {
		w = world.Copy(w)
		w.Tick = 1
		w.Bodies[i].Pos, w.Bodies[i].Vel = pos, vel
		return w
	}
	stone := of(block(still, still))
	two := of(block(still, still), ball(whole(9, 9), whole(3, 4)))
	fallen := placed(placed(under(whole(0, -64), two), 0, api.V{Y: -one / 64}, whole(0, -1)), 1, api.V{X: 9*one + 3*one/64, Y: 9*one + 3*one/64}, whole(3, 3))
	fallen.NextBody = 6
	// An offset of 1/16 is corrected with 4/5, half of it by each block.
	const drawn = 1717986918
	held := placed(placed(of(pair.Bodies...), 0, api.V{X: drawn / 64}, api.V{X: drawn}), 1, api.V{X: 4*one - drawn/64}, api.V{X: -drawn})
	held.Joints, held.NextJoint = []api.Joint{{ID: 1, A: 3, B: 5, Len: 4*one - one/16}}, 2
	for _, c := range []struct {
		what string
		w    api.World
		l    []api.Order
		want api.World
	}{
		{"Pull", stone, []api.Order{pull(whole(0, -64))}, placed(under(whole(0, -64), stone), 0, api.V{Y: -one / 64}, whole(0, -1))},
		{"Pull instead of another gravity", under(whole(64, 64), stone), []api.Order{pull(whole(0, -64))}, placed(under(whole(0, -64), stone), 0, api.V{Y: -one / 64}, whole(0, -1))},
		{"Push", stone, []api.Order{push(3, whole(4, -8), 0)}, placed(stone, 0, api.V{X: 2 * one / 64, Y: -4 * one / 64}, whole(2, -4))},
		{"RemoveBody", of(block(still, still), ball(still, still)), []api.Order{remove(5)}, placed(api.World{NextBody: 7, NextJoint: 1, Bodies: stone.Bodies}, 0, still, still)},
		{"AddBody", of(block(still, still)), []api.Order{add(two.Bodies[1]), pull(whole(0, -64))}, fallen},
		{"AddJoint", of(pair.Bodies...), []api.Order{join(3, 5, still, still, 4*one-one/16)}, held},
		{"RemoveJoint", pair, []api.Order{cut(4)}, placed(cutPair, 0, still, still)},
	} {
		checkSame(t, c.what, stepped(t, c.what, c.w, c.l...), c.want)
	}
	got := stepped(t, "a body comes where another one is", of(block(still, still)), add(block(whole(1, 0), still)))
	if len(got.Contacts) != 2 || got.Contacts[0].A != 3 || got.Contacts[0].B != 5 || got.Bodies[0].Vel.X >= 0 || got.Bodies[1].Vel.X <= 0 {
		t.Errorf("a body that comes where another one is: %+v", got)
	}
}

// A tick counts itself, and nothing else changes that has no part in it.
func TestTick(t *testing.T) {
	w := under(whole(1, 2), of(block(whole(0, 0), whole(0, 0)), block(whole(50, 0), whole(0, 0))))
	w.NextBody, w.NextJoint = 99, 42
	w.Joints = []api.Joint{{ID: 7, A: 5, B: 3, At: whole(1, 2), To: whole(3, 4), Len: 5 * one}, {ID: 41, A: 3, B: 5, Len: api.Far}}
	for _, tick := range []int{0, 1, 41, 1 << 32, last - 2, last - 1} {
		w.Tick = tick
		got := stepped(t, "a tick", w)
		want := world.Copy(w)
		want.Tick = tick + 1
		want.Bodies = got.Bodies
		checkSame(t, "a tick", got, want)
		if got.Bodies[0].ID != 3 || got.Bodies[1].ID != 5 || len(got.Bodies) != 2 {
			t.Errorf("the bodies are %+v", got.Bodies)
		}
	}
	if got := stepped(t, "a new world", world.New()); got.Tick != 1 || !world.Same(got, api.World{Tick: 1, NextBody: 1, NextJoint: 1}) {
		t.Errorf("after a tick, a new world is %+v", got)
	}
}

// full returns a world with as many bodies as there may be.
func full(t *testing.T) api.World {
	t.Helper()
	w := world.New()
	for i := range api.MaxBodies {
		if _, e := world.AddBody(&w, wall(whole(3*i, 0))); e != api.OK {
			t.Fatal(e)
		}
	}
	return w
}

func TestStepErrors(t *testing.T) {
	w := of(block(whole(0, 0), whole(1, 0)))
	ended := world.Copy(w)
	ended.Tick = last
	right, wrong := pull(whole(0, 1)), api.Order{Kind: api.Pull, ID: 1}
	times := func(n int, o api.Order) []api.Order { return slices.Repeat([]api.Order{o}, n) }
	for _, c := range []struct {
		what string
		w    api.World
		l    []api.Order
		want api.Errno
	}{
		{"64 orders", w, times(64, right), api.OK},
		{"65 orders", w, times(65, right), api.ErrFull},
		{"65 invalid orders", w, times(65, wrong), api.ErrFull},
		{"an invalid order", w, times(1, wrong), api.ErrArg},
		{"the zero order", w, make([]api.Order, 1), api.ErrArg},
		{"the last one is invalid", w, []api.Order{right, push(3, whole(1, 1), 0), wrong}, api.ErrArg},
		{"invalid, and a body too many", full(t), []api.Order{add(wall(whole(0, 0))), wrong}, api.ErrArg},
		{"a body too many", full(t), []api.Order{right, add(wall(whole(0, 0)))}, api.ErrFull},
		{"a body goes, and one comes", full(t), []api.Order{remove(9), add(wall(whole(0, 0)))}, api.OK},
		{"the last tick", ended, nil, api.ErrFull},
		{"an invalid order at the last tick", ended, times(1, wrong), api.ErrArg},
		{"a joint of nothing", w, []api.Order{join(3, 9, whole(0, 0), whole(0, 0), 0), remove(77), cut(77), push(77, whole(1, 1), 1)}, api.OK},
	} {
		before := world.Copy(c.w)
		got, e := step.Step(c.w, c.l)
		if e != c.want {
			t.Errorf("%s: Step returns %d, want %d", c.what, e, c.want)
		}
		if e != api.OK {
			checkSame(t, c.what, got, api.World{})
		} else if got.Tick != c.w.Tick+1 {
			t.Errorf("%s: the Tick is %d", c.what, got.Tick)
		}
		checkSame(t, c.what+": the world given", c.w, before)
	}
}
