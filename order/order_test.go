package order_test

import (
	"fmt"
	"math"
	"slices"
	"strings"
	"testing"

	"bagatelle/api"
	"bagatelle/fix"
	"bagatelle/order"
	"bagatelle/shape"
	"bagatelle/world"
)

const (
	// lowest is -2^63, which counts as Least.
	lowest api.F = -1 << 63
	// last is the greatest Tick, NextBody and NextJoint.
	last = 1 << 62
	arm  = 64 * api.One
	half = api.One / 2
)

func whole(x, y int) api.V {
	return api.V{X: fix.Of(x), Y: fix.Of(y)}
}

func disc() api.Shape {
	return api.Shape{Kind: api.Circle, R: api.One}
}

func square() api.Shape {
	return shape.Box(api.One, api.One)
}

// scene returns a valid world that has everything, and IDs that are missing. The
// mass of body 5 is 2, and its moment of inertia is 4/3.
func scene() api.World {
	return api.World{
		Tick: 7, NextBody: 12, NextJoint: 8, Gravity: whole(2, -3),
		Bodies: []api.Body{
			{ID: 2, Pos: whole(1, 3), Vel: whole(3, -1), Angle: api.One / 8, Spin: api.Pi, Density: api.One, Shape: disc()},
			{ID: 3, Pos: whole(0, -4), Angle: api.One / 4, Shape: square()},
			{ID: 5, Pos: whole(-6, 2), Vel: whole(7, 10), Spin: fix.Of(-2), Density: half, Shape: square()},
			{ID: 9, Pos: whole(8, 8), Shape: disc()},
		},
		Joints: []api.Joint{
			{ID: 1, A: 2, B: 5, At: whole(1, 1), To: whole(-1, 0), Len: fix.Of(4)},
			{ID: 4, A: 9, B: 3, Len: api.Far},
			{ID: 6, A: 5, B: 2},
		},
		Contacts: []api.Contact{
			{A: 2, B: 3, N: 5, T: -2}, {A: 2, B: 3, Key: 7, N: 6}, {A: 2, B: 5, N: 1}, {A: 3, B: 9, Key: 1, N: 4}, {A: 5, B: 9, Key: 4, T: 3},
		},
	}
}

func addBody() api.Order {
	return api.Order{Kind: 1, Pos: whole(1, 2), Vel: whole(3, -4), Angle: half, Spin: fix.Of(-5), Density: fix.Of(2), Shape: square()}
}

func removeBody() api.Order {
	return api.Order{Kind: 2, ID: 5}
}

func addJoint() api.Order {
	return api.Order{Kind: 3, A: 9, B: 2, Pos: whole(1, -2), Vel: whole(-3, 4), Len: fix.Of(6)}
}

func removeJoint() api.Order {
	return api.Order{Kind: 4, ID: 4}
}

func push() api.Order {
	return api.Order{Kind: 5, ID: 5, Vel: whole(3, -5), Spin: fix.Of(8)}
}

func pull() api.Order {
	return api.Order{Kind: 6, Vel: whole(1, -10)}
}

// orders returns an order of each kind. Each one has an effect on a scene, with
// values other than 0 in all fields that its kind uses.
func orders() []api.Order {
	return []api.Order{addBody(), removeBody(), addJoint(), removeJoint(), push(), pull()}
}

// equal reports whether both are told alike: an empty slice like a nil one.
func equal(a, b any) bool {
	return fmt.Sprintf("%+v", a) == fmt.Sprintf("%+v", b)
}

// A change is one thing that is done to a T, and what it is called.
type change[T any] struct {
	name string
	do   func(*T)
}

// set returns changes of each field of an order, but the Kind, to n.
func set(n int) []change[api.Order] {
	f := api.F(n)
	return []change[api.Order]{
		{"ID", func(o *api.Order) { o.ID = n }},
		{"A", func(o *api.Order) { o.A = n }},
		{"B", func(o *api.Order) { o.B = n }},
		{"Pos", func(o *api.Order) { o.Pos.X = f }},
		{"Pos", func(o *api.Order) { o.Pos.Y = f }},
		{"Vel", func(o *api.Order) { o.Vel.X = f }},
		{"Vel", func(o *api.Order) { o.Vel.Y = f }},
		{"Angle", func(o *api.Order) { o.Angle = f }},
		{"Spin", func(o *api.Order) { o.Spin = f }},
		{"Density", func(o *api.Order) { o.Density = f }},
		{"Len", func(o *api.Order) { o.Len = f }},
		{"Shape", func(o *api.Order) { o.Shape.Kind = n }},
		{"Shape", func(o *api.Order) { o.Shape.R = f }},
		{"Shape", func(o *api.Order) { o.Shape.P = append(slices.Clone(o.Shape.P), api.V{X: f, Y: f}) }},
	}
}

func TestGreat(t *testing.T) {
	if order.Great != fix.Of(1<<30) {
		t.Errorf("Great is %d, want 2^30", order.Great)
	}
}

func TestSame(t *testing.T) {
	for i, o := range append(orders(), api.Order{}) {
		for k, other := range append(orders(), api.Order{}) {
			if got := order.Same(o, other); got != (i == k) {
				t.Errorf("Same(%+v, %+v) = %v", o, other, got)
			}
		}
		for _, n := range []int{77, -1, math.MinInt, math.MinInt + 1, math.MaxInt} {
			for _, c := range append(set(n), change[api.Order]{"Kind", func(o *api.Order) { o.Kind = n }}) {
				one, two := o, o
				c.do(&one)
				c.do(&two)
				if order.Same(one, o) || order.Same(o, one) {
					t.Errorf("Same overlooks %s %d in %+v", c.name, n, o)
				}
				if !order.Same(one, two) {
					t.Errorf("%+v isn't the same as one like it", one)
				}
			}
		}
	}
}

func TestSameOfCorners(t *testing.T) {
	bare := api.Order{Kind: api.AddBody, Shape: api.Shape{P: []api.V{}}}
	if none := (api.Order{Kind: api.AddBody}); !order.Same(bare, none) || !order.Same(none, bare) {
		t.Error("an empty slice of corners isn't the same as no slice")
	}
	for i, change := range []func(p []api.V) []api.V{
		func(p []api.V) []api.V { p[3].Y++; return p },
		func(p []api.V) []api.V { p[0].X--; return p },
		func(p []api.V) []api.V { return p[:3] },
		func(p []api.V) []api.V { return append(p[1:], p[0]) },
		func(p []api.V) []api.V { return nil },
	} {
		one := addBody()
		one.Shape.P = change(one.Shape.P)
		if order.Same(one, addBody()) || order.Same(addBody(), one) {
			t.Errorf("Same overlooks other corners (change %d)", i)
		}
	}
}

// checkRight checks what Right says about each changed copy of o.
func checkRight(t *testing.T, o api.Order, want bool, changes []change[api.Order]) {
	t.Helper()
	for _, c := range changes {
		changed := o
		c.do(&changed)
		if got := order.Right(changed); got != want {
			t.Errorf("kind %d, %s: Right is %v, want %v", o.Kind, c.name, got, want)
		}
	}
}

// limits returns changes of each component of Vel, and of Spin if its limit is
// greater than 0, to limit and -limit, each with so many units more.
func limits(vel, spin, more api.F) []change[api.Order] {
	l := []change[api.Order]{
		{"X of Vel at its limit", func(o *api.Order) { o.Vel.X = vel + more }},
		{"X of Vel at its lower limit", func(o *api.Order) { o.Vel.X = -vel - more }},
		{"Y of Vel at its limit", func(o *api.Order) { o.Vel.Y = vel + more }},
		{"Y of Vel at its lower limit", func(o *api.Order) { o.Vel.Y = -vel - more }},
	}
	if spin > 0 {
		l = append(l,
			change[api.Order]{"Spin at its limit", func(o *api.Order) { o.Spin = spin + more }},
			change[api.Order]{"Spin at its lower limit", func(o *api.Order) { o.Spin = -spin - more }})
	}
	return l
}

func TestRight(t *testing.T) {
	for _, o := range orders() {
		checkRight(t, o, true, []change[api.Order]{{"as it is", func(*api.Order) {}}})
	}
	checkRight(t, addBody(), true, limits(api.Fast, api.Whirl, 0))
	checkRight(t, push(), true, limits(order.Great, order.Great, 0))
	checkRight(t, pull(), true, limits(api.Fast, 0, 0))
	checkRight(t, addJoint(), true, limits(arm, 0, 0))
	checkRight(t, addBody(), false, limits(api.Fast, api.Whirl, 1))
	checkRight(t, push(), false, limits(order.Great, order.Great, 1))
	checkRight(t, pull(), false, limits(api.Fast, 0, 1))
	checkRight(t, addJoint(), false, limits(arm, 0, 1))
	none := []change[api.Order]{{"no velocity and no spin", func(o *api.Order) { o.Vel, o.Spin = api.V{}, 0 }}}
	for _, o := range orders() {
		checkRight(t, o, true, none)
	}
	for _, far := range []api.F{lowest, api.Least, api.Most} {
		for _, o := range []api.Order{addBody(), push()} {
			checkRight(t, o, false, limits(0, 1, far))
		}
		checkRight(t, addJoint(), false, limits(far, 0, 0))
		checkRight(t, pull(), false, limits(far, 0, 0))
	}
}

func TestRightAddBody(t *testing.T) {
	checkRight(t, addBody(), true, []change[api.Order]{
		{"X Far", func(o *api.Order) { o.Pos.X = api.Far }},
		{"Y -Far", func(o *api.Order) { o.Pos.Y = -api.Far }},
		{"Angle 0", func(o *api.Order) { o.Angle = 0 }},
		{"Angle One - 1", func(o *api.Order) { o.Angle = api.One - 1 }},
		{"Density one unit", func(o *api.Order) { o.Density = 1 }},
		{"Density 1024", func(o *api.Order) { o.Density = fix.Of(1024) }},
		{"static", func(o *api.Order) { o.Density, o.Vel, o.Spin = 0, api.V{}, 0 }},
		{"a circle", func(o *api.Order) { o.Shape = disc() }},
		{"a circle with an empty slice", func(o *api.Order) { o.Shape = api.Shape{Kind: 1, R: shape.Small, P: []api.V{}} }},
		{"a triangle", func(o *api.Order) { o.Shape.P = o.Shape.P[:3] }},
	})
	checkRight(t, addBody(), false, []change[api.Order]{
		{"X beyond Far", func(o *api.Order) { o.Pos.X = api.Far + 1 }},
		{"X beyond -Far", func(o *api.Order) { o.Pos.X = -api.Far - 1 }},
		{"Y beyond Far", func(o *api.Order) { o.Pos.Y = api.Far + 1 }},
		{"Y beyond -Far", func(o *api.Order) { o.Pos.Y = -api.Far - 1 }},
		{"Angle -1", func(o *api.Order) { o.Angle = -1 }},
		{"Angle One", func(o *api.Order) { o.Angle = api.One }},
		{"Density -1", func(o *api.Order) { o.Density = -1 }},
		{"Density beyond 1024", func(o *api.Order) { o.Density = fix.Of(1024) + 1 }},
		{"static with Vel and Spin", func(o *api.Order) { o.Density = 0 }},
		{"static with Vel", func(o *api.Order) { o.Density, o.Spin = 0, 0 }},
		{"static with Spin", func(o *api.Order) { o.Density, o.Vel = 0, api.V{} }},
		{"no shape", func(o *api.Order) { o.Shape = api.Shape{} }},
		{"a circle too small", func(o *api.Order) { o.Shape = api.Shape{Kind: 1, R: shape.Small - 1} }},
		{"a circle with corners", func(o *api.Order) { o.Shape.Kind, o.Shape.R = 1, api.One }},
		{"a square with a radius", func(o *api.Order) { o.Shape.R = api.One }},
		{"two corners", func(o *api.Order) { o.Shape.P = o.Shape.P[:2] }},
		{"a polygon backwards", func(o *api.Order) {
			o.Shape = square()
			slices.Reverse(o.Shape.P)
		}},
	})
}

func TestRightAddJoint(t *testing.T) {
	checkRight(t, addJoint(), true, []change[api.Order]{
		{"X of Pos 64", func(o *api.Order) { o.Pos.X = arm }},
		{"X of Pos -64", func(o *api.Order) { o.Pos.X = -arm }},
		{"Y of Pos 64", func(o *api.Order) { o.Pos.Y = arm }},
		{"Y of Pos -64", func(o *api.Order) { o.Pos.Y = -arm }},
		{"Len 0", func(o *api.Order) { o.Len = 0 }},
		{"Len Far", func(o *api.Order) { o.Len = api.Far }},
		{"A 1", func(o *api.Order) { o.A = 1 }},
		{"B 1", func(o *api.Order) { o.B = 1 }},
		{"the greatest A", func(o *api.Order) { o.A = math.MaxInt }},
		{"the greatest B", func(o *api.Order) { o.B = math.MaxInt }},
	})
	checkRight(t, addJoint(), false, []change[api.Order]{
		{"X of Pos beyond 64", func(o *api.Order) { o.Pos.X = arm + 1 }},
		{"X of Pos beyond -64", func(o *api.Order) { o.Pos.X = -arm - 1 }},
		{"Y of Pos beyond 64", func(o *api.Order) { o.Pos.Y = arm + 1 }},
		{"Y of Pos beyond -64", func(o *api.Order) { o.Pos.Y = -arm - 1 }},
		{"Len -1", func(o *api.Order) { o.Len = -1 }},
		{"Len beyond Far", func(o *api.Order) { o.Len = api.Far + 1 }},
		{"A 0", func(o *api.Order) { o.A = 0 }},
		{"B 0", func(o *api.Order) { o.B = 0 }},
		{"a negative A", func(o *api.Order) { o.A = math.MinInt }},
		{"a negative B", func(o *api.Order) { o.B = -1 }},
		{"A and B the same", func(o *api.Order) { o.A = o.B }},
	})
}

func TestRightIDs(t *testing.T) {
	for _, o := range []api.Order{removeBody(), removeJoint(), push()} {
		checkRight(t, o, true, []change[api.Order]{
			{"ID 1", func(o *api.Order) { o.ID = 1 }},
			{"the greatest ID", func(o *api.Order) { o.ID = math.MaxInt }},
		})
		checkRight(t, o, false, []change[api.Order]{
			{"ID 0", func(o *api.Order) { o.ID = 0 }},
			{"ID -1", func(o *api.Order) { o.ID = -1 }},
			{"the least ID", func(o *api.Order) { o.ID = math.MinInt }},
		})
	}
}

// Of each kind, the fields that it doesn't use must be zero.
func TestUnusedFields(t *testing.T) {
	used := []string{"", "Pos Vel Angle Spin Density Shape", "ID", "A B Pos Vel Len", "ID", "ID Vel Spin", "Vel"}
	for _, o := range orders() {
		for _, n := range []int{1, 2, -1, math.MinInt, math.MaxInt} {
			unused := slices.DeleteFunc(set(n), func(c change[api.Order]) bool {
				return slices.Contains(strings.Fields(used[o.Kind]), c.name)
			})
			checkRight(t, o, false, unused)
		}
		if o.Kind != api.AddBody {
			checkRight(t, o, false, []change[api.Order]{
				{"a shape", func(o *api.Order) { o.Shape = disc() }},
				{"a zero corner", func(o *api.Order) { o.Shape.P = make([]api.V, 1) }},
			})
			checkRight(t, o, true, []change[api.Order]{
				{"an empty slice of corners", func(o *api.Order) { o.Shape.P = []api.V{} }},
			})
		}
	}
}

func otherKinds() []int {
	return []int{0, 7, 8, -1, -2, 255, 257, math.MinInt, math.MaxInt}
}

func TestOtherKindsAreInvalid(t *testing.T) {
	for _, kind := range otherKinds() {
		for _, o := range append(orders(), api.Order{}, api.Order{ID: 1}) {
			o.Kind = kind
			if order.Right(o) {
				t.Errorf("Right(%+v) is true", o)
			}
		}
	}
}

// checkDo checks what becomes of a scene by o.
func checkDo(t *testing.T, name string, o api.Order, want func(*api.World)) {
	t.Helper()
	w, wanted := scene(), scene()
	want(&wanted)
	if order.Do(&w, o); !equal(w, wanted) {
		t.Errorf("%s: Do leads to %+v, want %+v", name, w, wanted)
	}
	if !world.Right(w) {
		t.Errorf("%s: the world isn't valid any longer", name)
	}
}

func nothing(*api.World) {}

func TestDo(t *testing.T) {
	checkDo(t, "AddBody", addBody(), func(w *api.World) {
		w.NextBody = 13
		w.Bodies = append(w.Bodies, api.Body{ID: 12, Pos: whole(1, 2), Vel: whole(3, -4), Angle: half, Spin: fix.Of(-5), Density: fix.Of(2), Shape: square()})
	})
	checkDo(t, "AddJoint", addJoint(), func(w *api.World) {
		w.NextJoint = 9
		w.Joints = append(w.Joints, api.Joint{ID: 8, A: 9, B: 2, At: whole(1, -2), To: whole(-3, 4), Len: fix.Of(6)})
	})
	checkDo(t, "RemoveBody", removeBody(), func(w *api.World) {
		w.Bodies = slices.Delete(w.Bodies, 2, 3)
		w.Joints = w.Joints[1:2]
		w.Contacts = []api.Contact{w.Contacts[0], w.Contacts[1], w.Contacts[3]}
	})
	checkDo(t, "RemoveJoint", removeJoint(), func(w *api.World) { w.Joints = slices.Delete(w.Joints, 1, 2) })
	checkDo(t, "Pull", pull(), func(w *api.World) { w.Gravity = whole(1, -10) })
	checkDo(t, "Pull up to Fast", api.Order{Kind: 6, Vel: api.V{X: api.Fast, Y: -api.Fast}}, func(w *api.World) {
		w.Gravity = api.V{X: api.Fast, Y: -api.Fast}
	})
	checkDo(t, "Pull of nothing", api.Order{Kind: 6}, func(w *api.World) { w.Gravity = api.V{} })
}

func TestDoWithoutEffect(t *testing.T) {
	for _, id := range []int{1, 4, 12, 13, math.MaxInt} {
		checkDo(t, "RemoveBody of none", api.Order{Kind: 2, ID: id}, nothing)
		checkDo(t, "Push of none", api.Order{Kind: 5, ID: id, Vel: whole(1, 1), Spin: 1}, nothing)
		checkDo(t, "AddJoint of no A", api.Order{Kind: 3, A: id, B: 2}, nothing)
		checkDo(t, "AddJoint of no B", api.Order{Kind: 3, A: 2, B: id}, nothing)
	}
	for _, id := range []int{2, 3, 5, 7, 8, 9, math.MaxInt} {
		checkDo(t, "RemoveJoint of none", api.Order{Kind: 4, ID: id}, nothing)
	}
	for _, kind := range otherKinds() {
		for _, o := range append(orders(), api.Order{ID: 2, A: 2, B: 3, Vel: whole(5, 5)}) {
			o.Kind = kind
			checkDo(t, fmt.Sprint("kind ", kind), o, nothing)
		}
	}
	// Full ones stay as they are.
	for _, w := range []api.World{crowd(1024, 1024), ended(scene())} {
		for _, o := range []api.Order{addBody(), addJoint()} {
			got := world.Copy(w)
			if order.Do(&got, o); !equal(got, w) {
				t.Errorf("kind %d changes a full world", o.Kind)
			}
		}
	}
}

// ended returns w without any ID left.
func ended(w api.World) api.World {
	w.NextBody, w.NextJoint = last, last
	return w
}

// crowd returns a valid world of so many bodies and joints, from ID 1 on.
func crowd(bodies, joints int) api.World {
	w := api.World{NextBody: bodies + 1, NextJoint: joints + 1}
	for i := range bodies {
		w.Bodies = append(w.Bodies, api.Body{ID: i + 1, Pos: whole(3*i, 0), Density: api.F(i%2) * api.One, Shape: square()})
	}
	for i := range joints {
		w.Joints = append(w.Joints, api.Joint{ID: i + 1, A: i%bodies + 1, B: (i+1)%bodies + 1, Len: fix.Of(i)})
	}
	return w
}

func TestPush(t *testing.T) {
	// By 1/2 of its Vel, and by 3/4 of its Spin.
	for _, c := range []struct {
		name       string
		vel        api.V
		spin       api.F
		wantedVel  api.V
		wantedSpin api.F
	}{
		{"all", whole(3, -5), fix.Of(8), api.V{X: 17 * half, Y: 15 * half}, fix.Of(4)},
		{"the other way", whole(-3, 5), fix.Of(-8), api.V{X: 11 * half, Y: 25 * half}, fix.Of(-8)},
		{"not at all", api.V{}, 0, whole(7, 10), fix.Of(-2)},
		{"X alone", whole(4, 0), 0, whole(9, 10), fix.Of(-2)},
		{"Y alone", whole(0, 4), 0, whole(7, 12), fix.Of(-2)},
		{"Spin alone", api.V{}, fix.Of(4), whole(7, 10), fix.Of(1)},
		{"by few units", api.V{X: 3, Y: -3}, 3, api.V{X: 7*api.One + 1, Y: 10*api.One - 1}, fix.Of(-2) + 2},
		{"by one unit", api.V{X: -1, Y: 1}, -1, whole(7, 10), fix.Of(-2)},
		{"up to Fast", api.V{X: 2 * (api.Fast - fix.Of(7)), Y: 2 * (-api.Fast - fix.Of(10))}, 0, api.V{X: api.Fast, Y: -api.Fast}, fix.Of(-2)},
		{"up to less than Fast", api.V{X: 2 * (api.Fast - fix.Of(7) - 1), Y: 2 * (-api.Fast - fix.Of(10) + 1)}, 0, api.V{X: api.Fast - 1, Y: -api.Fast + 1}, fix.Of(-2)},
		{"beyond Fast", api.V{X: 2 * (api.Fast - fix.Of(7) + 1), Y: 2 * (-api.Fast - fix.Of(10) - 1)}, 0, api.V{X: api.Fast, Y: -api.Fast}, fix.Of(-2)},
		{"beyond Whirl", api.V{}, 2 * api.Whirl, whole(7, 10), api.Whirl},
		{"beyond -Whirl", api.V{}, -2 * api.Whirl, whole(7, 10), -api.Whirl},
		{"at most", api.V{X: order.Great, Y: order.Great}, order.Great, api.V{X: api.Fast, Y: api.Fast}, api.Whirl},
		{"at least", api.V{X: -order.Great, Y: -order.Great}, -order.Great, api.V{X: -api.Fast, Y: -api.Fast}, -api.Whirl},
	} {
		checkDo(t, c.name, api.Order{Kind: 5, ID: 5, Vel: c.vel, Spin: c.spin}, func(w *api.World) {
			w.Bodies[2].Vel, w.Bodies[2].Spin = c.wantedVel, c.wantedSpin
		})
	}
}

func TestPushOfStaticBodies(t *testing.T) {
	for _, id := range []int{3, 9} {
		for _, n := range []api.F{0, 1, api.One, order.Great, -order.Great} {
			checkDo(t, "a static body", api.Order{Kind: 5, ID: id, Vel: api.V{X: n, Y: -n}, Spin: n}, nothing)
		}
	}
}

// The inverses of the mass of the least body are Most: what is pushed is
// saturated before it is added, and again after that.
func TestPushOfTheLeastBody(t *testing.T) {
	least := api.Body{ID: 1, Density: 1, Shape: api.Shape{Kind: api.Circle, R: shape.Small}}
	for _, c := range []struct{ vel, push, want, spin, wantedSpin api.F }{
		{0, order.Great, api.Fast, 0, api.Whirl},
		{api.Fast, order.Great, api.Fast, api.Whirl, api.Whirl},
		{-api.Fast, order.Great, api.Fast, -api.Whirl, api.Whirl},
		{api.Fast, -order.Great, -api.Fast, api.Whirl, -api.Whirl},
		{-api.Fast, -order.Great, -api.Fast, -api.Whirl, -api.Whirl},
		{0, 1, 1<<31 - 1, 0, 1<<31 - 1},
		{5, -1, -1<<31 + 6, -5, -1<<31 - 4},
	} {
		w := api.World{NextBody: 2, NextJoint: 1, Bodies: []api.Body{least}}
		w.Bodies[0].Vel, w.Bodies[0].Spin = api.V{X: c.vel, Y: c.vel}, c.spin
		order.Do(&w, api.Order{Kind: 5, ID: 1, Vel: api.V{X: c.push, Y: c.push}, Spin: c.push})
		want := least
		want.Vel, want.Spin = api.V{X: c.want, Y: c.want}, c.wantedSpin
		if !equal(w.Bodies[0], want) || !world.Right(w) {
			t.Errorf("%+v: Do leads to %+v, want %+v", c, w.Bodies[0], want)
		}
	}
}

func TestPushTwice(t *testing.T) {
	w := scene()
	order.Do(&w, push())
	order.Do(&w, push())
	if got, want := w.Bodies[2].Vel, whole(10, 5); got != want {
		t.Errorf("two pushes lead to %v, want %v", got, want)
	}
	if got := w.Bodies[2].Spin; got != fix.Of(10) {
		t.Errorf("two pushes lead to the spin %d, want 10", got)
	}
}

func TestDoCopiesTheShape(t *testing.T) {
	w, o := scene(), addBody()
	order.Do(&w, o)
	order.Do(&w, o)
	o.Shape.P[0] = whole(50, 50)
	w.Bodies[4].Shape.P[1] = whole(60, 60)
	if w.Bodies[4].Shape.P[0] != whole(-1, -1) || !shape.Same(w.Bodies[5].Shape, square()) {
		t.Errorf("the corners of %+v aren't their own", w.Bodies[4:])
	}
}

// Do gives a world new slices: the ones that it had stay as they were.
func TestOldSlicesStay(t *testing.T) {
	for _, o := range orders() {
		w, told := roomy(scene())
		old, all := w, told()
		order.Do(&w, o)
		if equal(w, old) {
			t.Errorf("kind %d has no effect", o.Kind)
		}
		if told() != all || !equal(old, scene()) {
			t.Errorf("kind %d modifies slices that the world had", o.Kind)
		}
	}
}

func TestOrdersStay(t *testing.T) {
	for i, o := range orders() {
		w := scene()
		corners := append(slices.Clone(o.Shape.P), whole(9, 9))
		o.Shape.P = corners[:len(o.Shape.P)]
		before := fmt.Sprint(corners)
		order.Right(o)
		order.Same(o, o)
		order.Do(&w, o)
		order.Check(w, []api.Order{o})
		order.All(w, []api.Order{o})
		if !equal(o, orders()[i]) || fmt.Sprint(corners) != before {
			t.Errorf("a call modifies an order of kind %d", o.Kind)
		}
	}
}

// roomy returns w with slices that have room after their ends, with something in
// it, and a function that tells all that lies in them.
func roomy(w api.World) (api.World, func() string) {
	bodies := append(slices.Clone(w.Bodies), api.Body{ID: 101}, api.Body{ID: 102})
	for i, b := range bodies {
		corners := append(slices.Clone(b.Shape.P), whole(i, 103))
		bodies[i].Shape.P = corners[:len(b.Shape.P)]
	}
	joints := append(slices.Clone(w.Joints), api.Joint{ID: 104}, api.Joint{ID: 105})
	contacts := append(slices.Clone(w.Contacts), api.Contact{A: 106}, api.Contact{A: 107})
	w.Bodies, w.Joints, w.Contacts = bodies[:len(w.Bodies)], joints[:len(w.Joints)], contacts[:len(w.Contacts)]
	return w, func() string {
		text := fmt.Sprint(bodies, joints, contacts)
		for _, b := range bodies {
			text += fmt.Sprint(b.Shape.P[:len(b.Shape.P)+1])
		}
		return text
	}
}
