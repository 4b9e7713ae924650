package order_test

import (
	"fmt"
	"math"
	"slices"
	"testing"

	"bagatelle/api"
	"bagatelle/fix"
	"bagatelle/mass"
	"bagatelle/order"
	"bagatelle/shape"
	"bagatelle/vec"
	"bagatelle/world"
)

// A batch is a world, orders, and what Check says about them.
type batch struct {
	name   string
	w      api.World
	orders []api.Order
	want   api.Errno
}

func times(n int, o api.Order) []api.Order {
	return slices.Repeat([]api.Order{o}, n)
}

func at(tick int, w api.World) api.World {
	w.Tick = tick
	return w
}

func nextBody(id int, w api.World) api.World {
	w.NextBody = id
	return w
}

func nextJoint(id int, w api.World) api.World {
	w.NextJoint = id
	return w
}

func remove(id int) api.Order {
	return api.Order{Kind: api.RemoveBody, ID: id}
}

func cut(id int) api.Order {
	return api.Order{Kind: api.RemoveJoint, ID: id}
}

func join(a, b int) api.Order {
	return api.Order{Kind: api.AddJoint, A: a, B: b, Len: api.One}
}

// wrong is an invalid order.
func wrong() api.Order {
	return api.Order{Kind: api.Pull, ID: 1}
}

// sizes are batches of as many orders as there may be, and invalid ones.
func sizes() []batch {
	return []batch{
		{"nil", scene(), nil, api.OK},
		{"no orders", world.New(), []api.Order{}, api.OK},
		{"each kind", scene(), orders(), api.OK},
		{"each kind, of nothing", world.New(), orders(), api.OK},
		{"64 orders", scene(), times(64, pull()), api.OK},
		{"64 bodies", world.New(), times(64, addBody()), api.OK},
		{"65 orders", scene(), times(65, pull()), api.ErrFull},
		{"65 orders without effect", world.New(), times(65, cut(1)), api.ErrFull},
		{"65 invalid orders", scene(), times(65, wrong()), api.ErrFull},
		{"100000 invalid orders", scene(), make([]api.Order, 100000), api.ErrFull},
		{"64 invalid orders", scene(), times(64, wrong()), api.ErrArg},
		{"an invalid order", scene(), []api.Order{wrong()}, api.ErrArg},
		{"the zero order", scene(), make([]api.Order, 1), api.ErrArg},
		{"kind 7", scene(), []api.Order{pull(), {Kind: 7}}, api.ErrArg},
		{"the first one is invalid", scene(), append([]api.Order{wrong()}, orders()...), api.ErrArg},
		{"the last one is invalid", scene(), append(orders(), wrong()), api.ErrArg},
		{"the 64th one is invalid", scene(), append(times(63, pull()), wrong()), api.ErrArg},
		{"one is invalid, and one too many", crowd(1024, 0), []api.Order{addBody(), wrong()}, api.ErrArg},
		{"Tick 2^62 - 1", at(last-1, scene()), orders(), api.OK},
		{"Tick 2^62", at(last, scene()), orders(), api.ErrFull},
		{"Tick 2^62, no orders", at(last, scene()), nil, api.ErrFull},
		{"Tick 2^62, an invalid order", at(last, scene()), []api.Order{wrong()}, api.ErrArg},
		{"Tick 2^62, 65 invalid orders", at(last, scene()), times(65, wrong()), api.ErrFull},
	}
}

// crowds are batches for worlds where there is room for few more.
func crowds() []batch {
	pair := crowd(3, 0)
	for i := range 1024 {
		pair.Joints = append(pair.Joints, api.Joint{ID: i + 1, A: 2, B: 3})
	}
	pair.NextJoint = 1025
	return []batch{
		{"1023 bodies", crowd(1023, 0), times(1, addBody()), api.OK},
		{"1023 bodies, two more", crowd(1023, 0), times(2, addBody()), api.ErrFull},
		{"960 bodies, 64 more", crowd(960, 0), times(64, addBody()), api.OK},
		{"961 bodies, 64 more", crowd(961, 0), times(64, addBody()), api.ErrFull},
		{"1024 bodies", crowd(1024, 0), times(1, addBody()), api.ErrFull},
		{"1024 bodies, none more", crowd(1024, 1023), append(orders()[1:], join(1, 2), cut(9)), api.OK},
		{"one body goes, and one comes", crowd(1024, 9), []api.Order{remove(5), addBody()}, api.OK},
		{"one body comes, and one goes", crowd(1024, 9), []api.Order{addBody(), remove(5)}, api.ErrFull},
		{"one body goes, and two come", crowd(1024, 9), []api.Order{remove(5), addBody(), addBody()}, api.ErrFull},
		{"one body goes twice", crowd(1024, 9), []api.Order{remove(5), remove(5), addBody(), addBody()}, api.ErrFull},
		{"no body goes", crowd(1024, 9), []api.Order{remove(1025), addBody()}, api.ErrFull},
		{"a body comes and goes, twice", crowd(1023, 9), []api.Order{addBody(), remove(1024), addBody(), remove(1025)}, api.OK},
		{"a joint goes, not a body", crowd(1024, 9), []api.Order{cut(5), addBody()}, api.ErrFull},
		{"1023 joints", crowd(3, 1023), times(1, join(1, 2)), api.OK},
		{"1023 joints, two more", crowd(3, 1023), times(2, join(1, 2)), api.ErrFull},
		{"1023 joints, many of none", crowd(3, 1023), append(times(63, join(1, 4)), join(1, 3)), api.OK},
		{"1024 joints", crowd(3, 1024), times(1, join(1, 2)), api.ErrFull},
		{"1024 joints, no A", crowd(3, 1024), times(9, join(4, 1)), api.OK},
		{"1024 joints, no B", crowd(3, 1024), times(9, join(1, 4)), api.OK},
		{"1024 joints, neither", crowd(3, 1024), times(9, join(5, 4)), api.OK},
		{"1024 joints, a body more", crowd(3, 1024), times(9, addBody()), api.OK},
		{"1024 joints, of a body that came", crowd(3, 1024), []api.Order{addBody(), join(1, 4)}, api.ErrFull},
		{"1024 joints, of a body that will come", crowd(3, 1024), []api.Order{join(1, 4), addBody()}, api.OK},
		{"1024 joints, of a body that went", pair, []api.Order{remove(1), join(1, 2)}, api.OK},
		{"1024 joints, of a body that will go", pair, []api.Order{join(1, 2), remove(1)}, api.ErrFull},
		{"1024 joints, another body went", pair, []api.Order{remove(1), join(2, 3)}, api.ErrFull},
		{"a body went with its joints", pair, []api.Order{remove(3), join(2, 1)}, api.OK},
		{"one joint goes, and one comes", pair, []api.Order{cut(7), join(2, 1)}, api.OK},
		{"one joint comes, and one goes", pair, []api.Order{join(2, 1), cut(7)}, api.ErrFull},
		{"one joint goes twice", pair, []api.Order{cut(7), cut(7), join(2, 1), join(2, 1)}, api.ErrFull},
		{"no joint goes", pair, []api.Order{cut(1025), join(2, 1)}, api.ErrFull},
	}
}

// ends are batches for worlds where there are few IDs left.
func ends() []batch {
	return []batch{
		{"NextBody 2^62", nextBody(last, scene()), times(1, addBody()), api.ErrFull},
		{"NextBody 2^62, none more", nextBody(last, scene()), orders()[1:], api.OK},
		{"NextBody 2^62, a body goes", nextBody(last, scene()), []api.Order{remove(5), addBody()}, api.ErrFull},
		{"NextBody 2^62 - 1", nextBody(last-1, scene()), times(1, addBody()), api.OK},
		{"NextBody 2^62 - 1, two more", nextBody(last-1, scene()), times(2, addBody()), api.ErrFull},
		{"NextBody 2^62 - 1, it comes and goes", nextBody(last-1, scene()), []api.Order{addBody(), remove(last - 1), addBody()}, api.ErrFull},
		{"NextBody 2^62 and 1024 bodies", nextBody(last, crowd(1024, 0)), times(1, addBody()), api.ErrFull},
		{"NextBody 2^62, a joint", nextBody(last, scene()), times(1, join(2, 3)), api.OK},
		{"NextJoint 2^62", nextJoint(last, scene()), times(1, join(2, 3)), api.ErrFull},
		{"NextJoint 2^62, no B", nextJoint(last, scene()), times(9, join(2, 4)), api.OK},
		{"NextJoint 2^62, no A", nextJoint(last, scene()), times(9, join(4, 2)), api.OK},
		{"NextJoint 2^62, a joint goes", nextJoint(last, scene()), []api.Order{cut(4), join(2, 3)}, api.ErrFull},
		{"NextJoint 2^62 - 1", nextJoint(last-1, scene()), times(1, join(2, 3)), api.OK},
		{"NextJoint 2^62 - 1, two more", nextJoint(last-1, scene()), times(2, join(2, 3)), api.ErrFull},
		{"NextJoint 2^62 and 1024 joints", nextJoint(last, crowd(4, 1024)), times(1, join(2, 3)), api.ErrFull},
		{"NextJoint 2^62, a body", nextJoint(last, scene()), times(1, addBody()), api.OK},
	}
}

// checkBatch checks what Check and All say about b, and that they leave its
// world as it is.
func checkBatch(t *testing.T, b batch) {
	t.Helper()
	w, told := roomy(b.w)
	before, all := fmt.Sprint(w), told()
	if got := order.Check(w, b.orders); got != b.want {
		t.Errorf("%s: Check returns %d, want %d", b.name, got, b.want)
	}
	var wanted api.World
	if b.want == api.OK {
		wanted = world.Copy(b.w)
		for _, o := range b.orders {
			order.Do(&wanted, o)
		}
	}
	got, e := order.All(w, b.orders)
	if e != b.want || !equal(got, wanted) {
		t.Errorf("%s: All returns %+v, %d, want %+v, %d", b.name, got, e, wanted, b.want)
	}
	if e == api.OK && !world.Right(got) {
		t.Errorf("%s: All returns a world that isn't valid", b.name)
	}
	if fmt.Sprint(w) != before || told() != all {
		t.Errorf("%s: Check or All modifies the world", b.name)
	}
}

func TestCheckAndAll(t *testing.T) {
	for _, b := range slices.Concat(sizes(), crowds(), ends()) {
		if !world.Right(b.w) {
			t.Errorf("%s: the world isn't valid", b.name)
		}
		checkBatch(t, b)
	}
}

func TestAllOfEachKind(t *testing.T) {
	got, e := order.All(scene(), []api.Order{push(), addBody(), join(12, 9), pull(), remove(2), cut(4), {Kind: 5, ID: 12, Vel: whole(16, 0)}, join(2, 3)})
	s := scene()
	five := s.Bodies[2]
	five.Vel, five.Spin = api.V{X: 17 * half, Y: 15 * half}, fix.Of(4)
	want := api.World{
		Tick: 7, NextBody: 13, NextJoint: 9, Gravity: whole(1, -10),
		Bodies: []api.Body{
			s.Bodies[1], five, s.Bodies[3],
			{ID: 12, Pos: whole(1, 2), Vel: whole(5, -4), Angle: half, Spin: fix.Of(-5), Density: fix.Of(2), Shape: square()},
		},
		Joints:   []api.Joint{{ID: 8, A: 12, B: 9, Len: api.One}},
		Contacts: s.Contacts[3:],
	}
	if e != api.OK || !equal(got, want) {
		t.Errorf("All returns %+v, %d, want %+v", got, e, want)
	}
}

// spoil changes each element of the slices of w, and of those of its shapes, and
// adds to them.
func spoil(w *api.World) {
	for i := range w.Bodies {
		for k := range w.Bodies[i].Shape.P {
			w.Bodies[i].Shape.P[k] = whole(77, 77)
		}
		_ = append(w.Bodies[i].Shape.P, whole(78, 78))
		w.Bodies[i] = api.Body{ID: 79}
	}
	for i := range w.Joints {
		w.Joints[i] = api.Joint{ID: 80}
	}
	for i := range w.Contacts {
		w.Contacts[i] = api.Contact{A: 81}
	}
	_ = append(w.Bodies, api.Body{ID: 82})
	_ = append(w.Joints, api.Joint{ID: 83})
	_ = append(w.Contacts, api.Contact{A: 84})
}

func TestAllReturnsItsOwnMemory(t *testing.T) {
	for _, l := range [][]api.Order{nil, times(1, pull()), times(1, push()), times(1, addBody()), times(1, addJoint()), times(1, removeBody()), times(1, removeJoint()), orders()} {
		w, told := roomy(scene())
		all, given := told(), fmt.Sprint(l)
		got, _ := order.All(w, l)
		other, _ := order.All(w, l)
		before := fmt.Sprint(other)
		spoil(&got)
		if told() != all || !equal(w, scene()) {
			t.Errorf("All of %+v returns a world that shares memory with its argument", l)
		}
		if fmt.Sprint(l) != given {
			t.Errorf("All of %+v returns a world that shares memory with an order", given)
		}
		if fmt.Sprint(other) != before {
			t.Errorf("All of %+v returns worlds that share memory", l)
		}
	}
}

// noise returns a function that returns numbers from 0 up to below n, always
// the same.
func noise() func(n int) int {
	state := uint64(88172645463325252)
	return func(n int) int {
		state ^= state << 13
		state ^= state >> 7
		state ^= state << 17
		return int(state>>1) % n
	}
}

// upTo returns a number from -limit to limit: one of both, or of few units, or
// any other.
func upTo(next func(n int) int, limit api.F) api.F {
	sign := api.F(2*next(2) - 1)
	return sign * []api.F{limit, limit - 1, api.F(next(3)), api.F(next(int(limit))), min(limit, api.F(next(20))*api.One)}[next(5)]
}

func anyV(next func(n int) int, limit api.F) api.V {
	return api.V{X: upTo(next, limit), Y: upTo(next, limit)}
}

func anyShape(next func(n int) int) api.Shape {
	size := shape.Small + api.F(next(int(shape.Great-shape.Small+1)))
	return []api.Shape{{Kind: 1, R: size}, shape.Box(size, shape.Small), {Kind: 1, R: shape.Small}, shape.Box(1<<16, 1<<16), square()}[next(5)]
}

// anyOrder returns a valid order, most often of bodies and joints that exist
// or have been there. Few bodies are removed, as their joints go with them.
func anyOrder(next func(n int) int, w api.World) api.Order {
	id := func(after int) int { return max(after-next(12), 1) }
	switch kind := []int{1, 1, 1, 2, 3, 3, 3, 3, 4, 4, 5, 6}[next(12)]; kind {
	case api.AddBody:
		o := api.Order{Kind: kind, Pos: anyV(next, api.Far), Angle: api.F(next(int(api.One))), Shape: anyShape(next)}
		if next(4) > 0 {
			o.Vel, o.Spin = anyV(next, api.Fast), upTo(next, api.Whirl)
			o.Density = max(fix.Abs(upTo(next, world.Heavy)), 1)
		}
		return o
	case api.AddJoint:
		o := api.Order{Kind: kind, A: id(w.NextBody), B: id(w.NextBody), Pos: anyV(next, arm), Vel: anyV(next, arm), Len: fix.Abs(upTo(next, api.Far))}
		if o.A == o.B {
			o.B++
		}
		return o
	case api.RemoveJoint:
		return api.Order{Kind: kind, ID: id(w.NextJoint)}
	case api.RemoveBody:
		return api.Order{Kind: kind, ID: id(w.NextBody)}
	case api.Push:
		return api.Order{Kind: kind, ID: id(w.NextBody), Vel: anyV(next, order.Great), Spin: upTo(next, order.Great)}
	}
	return api.Order{Kind: api.Pull, Vel: anyV(next, api.Fast)}
}

// done returns the world after o in the chapter's words, and whether o would
// have exceeded a limit. The given world stays as it is.
func done(w api.World, o api.Order) (api.World, bool) {
	w = world.Copy(w)
	full := false
	i := slices.IndexFunc(w.Bodies, func(b api.Body) bool { return b.ID == o.ID })
	is := func(id int) bool { return slices.ContainsFunc(w.Bodies, func(b api.Body) bool { return b.ID == id }) }
	switch o.Kind {
	case api.AddBody:
		full = len(w.Bodies) == api.MaxBodies || w.NextBody == last
		world.AddBody(&w, api.Body{Pos: o.Pos, Vel: o.Vel, Angle: o.Angle, Spin: o.Spin, Density: o.Density, Shape: o.Shape})
	case api.RemoveBody:
		world.RemoveBody(&w, o.ID)
	case api.AddJoint:
		full = is(o.A) && is(o.B) && (len(w.Joints) == api.MaxJoints || w.NextJoint == last)
		world.AddJoint(&w, api.Joint{A: o.A, B: o.B, At: o.Pos, To: o.Vel, Len: o.Len})
	case api.RemoveJoint:
		world.RemoveJoint(&w, o.ID)
	case api.Push:
		if i >= 0 && w.Bodies[i].Density > 0 {
			b, m := &w.Bodies[i], mass.Of(w.Bodies[i])
			sum := vec.Add(b.Vel, vec.Scale(o.Vel, m.Move))
			b.Vel.X = min(max(sum.X, -api.Fast), api.Fast)
			b.Vel.Y = min(max(sum.Y, -api.Fast), api.Fast)
			b.Spin = min(max(fix.Add(b.Spin, fix.Mul(o.Spin, m.Spin)), -api.Whirl), api.Whirl)
		}
	case api.Pull:
		w.Gravity = o.Vel
	}
	return w, full
}

func TestManyOrders(t *testing.T) {
	next := noise()
	w := scene()
	effects := make([]int, 7)
	for i := range 6000 {
		o := anyOrder(next, w)
		if !order.Right(o) {
			t.Fatalf("order %d, %+v, isn't valid", i, o)
		}
		want, _ := done(w, o)
		before := w
		order.Do(&w, o)
		if !world.Same(w, want) || !world.Right(w) {
			t.Fatalf("order %d, %+v, leads to %+v, want %+v", i, o, w, want)
		}
		if !world.Same(w, before) {
			effects[o.Kind]++
		}
	}
	for _, o := range orders() {
		if effects[o.Kind] < 200 {
			t.Errorf("only %d orders of kind %d had an effect", effects[o.Kind], o.Kind)
		}
	}
}

// starts returns worlds with room for few bodies and joints, or IDs, or ticks.
func starts() []api.World {
	return []api.World{
		world.New(), scene(), ended(scene()), nextBody(last-3, scene()), nextJoint(last-2, scene()), at(last-1, scene()), at(last, scene()),
		crowd(1021, 0), crowd(1024, 1023), crowd(9, 1022),
	}
}

// checked is Check in the chapter's words.
func checked(w api.World, l []api.Order) (api.World, api.Errno) {
	e := api.OK
	for _, o := range l {
		if !order.Right(o) {
			e = api.ErrArg
		}
	}
	if len(l) > 64 {
		e = api.ErrFull
	}
	if e == api.OK && w.Tick == last {
		e = api.ErrFull
	}
	for _, o := range l {
		if e != api.OK {
			return api.World{}, e
		}
		full := false
		if w, full = done(w, o); full {
			e = api.ErrFull
		}
	}
	if e != api.OK {
		return api.World{}, e
	}
	return w, e
}

func TestManyBatches(t *testing.T) {
	next := noise()
	counts := make([]int, 10)
	for i := range 300 {
		w := starts()[i%10]
		// IDs near those that the batch itself gives.
		seen := w
		seen.NextBody, seen.NextJoint = min(w.NextBody, 2000)+3, min(w.NextJoint, 2000)+3
		var l []api.Order
		for range next(13) + next(8)/7*next(56) {
			l = append(l, anyOrder(next, seen))
		}
		if len(l) > 0 && next(5) == 0 {
			l[next(len(l))] = wrong()
		}
		want, wantE := checked(w, l)
		got, e := order.All(w, l)
		if e != wantE || !world.Same(got, want) {
			t.Fatalf("batch %d: All returns %+v, %d, want %+v, %d", i, got, e, want, wantE)
		}
		if check := order.Check(w, l); check != wantE {
			t.Fatalf("batch %d: Check returns %d, want %d", i, check, wantE)
		}
		if e == api.OK && !world.Right(got) {
			t.Fatalf("batch %d: All returns a world that isn't valid", i)
		}
		counts[e]++
	}
	if counts[api.OK] < 60 || counts[api.ErrFull] < 60 || counts[api.ErrArg] < 10 {
		t.Errorf("only so many batches of each error: %v", counts)
	}
}

// strange returns orders of any kind with any numbers.
func strange() []api.Order {
	var l []api.Order
	for _, kind := range append(otherKinds(), 1, 2, 3, 4, 5, 6) {
		for _, n := range []int{math.MinInt, math.MinInt + 1, -1, 0, 1, 2, 3, 5, 9, last, math.MaxInt} {
			o := api.Order{Shape: api.Shape{P: make([]api.V, max(n, 0)%99)}}
			for _, c := range set(n) {
				c.do(&o)
			}
			o.Kind = kind
			l = append(l, o)
		}
	}
	return l
}

// TestAnyArguments is for P0: no call may panic, whatever it is given.
func TestAnyArguments(t *testing.T) {
	back := scene()
	slices.Reverse(back.Bodies)
	worlds := append(starts(), back, api.World{}, crowd(1025, 1025),
		api.World{Tick: math.MinInt, NextBody: math.MaxInt, NextJoint: math.MinInt, Bodies: []api.Body{{ID: math.MinInt, Spin: lowest, Density: api.Most}}},
		api.World{Tick: math.MaxInt, NextBody: math.MinInt, Bodies: []api.Body{{ID: 1, Vel: api.V{X: lowest, Y: lowest}, Spin: lowest, Density: 1, Shape: api.Shape{Kind: 9}}}})
	for _, o := range strange() {
		order.Right(o)
		order.Same(o, wrong())
		order.Do(nil, o)
		for _, w := range worlds {
			order.Check(w, []api.Order{o})
			order.All(w, []api.Order{o})
			order.Do(&w, o)
		}
	}
	for _, w := range worlds {
		order.Check(w, orders())
		order.All(w, orders())
		order.All(w, strange())
	}
}
