package world_test

import (
	"fmt"
	"math"
	"slices"
	"testing"

	"bagatelle/api"
	"bagatelle/fix"
	"bagatelle/shape"
	"bagatelle/world"
)

const (
	// lowest is -2^63, which counts as Least.
	lowest api.F = -1 << 63
	// last is the greatest Tick, NextBody and NextJoint.
	last = 1 << 62
	arm  = 64 * api.One
)

func whole(x, y int) api.V {
	return api.V{X: fix.Of(x), Y: fix.Of(y)}
}

func disc() api.Shape {
	return api.Shape{Kind: api.Circle, R: api.One}
}

// ball returns a body that moves.
func ball(id, x, y int) api.Body {
	return api.Body{ID: id, Pos: whole(x, y), Vel: whole(y, -x), Angle: api.One / 8, Spin: api.Pi, Density: api.One, Shape: disc()}
}

// wall returns a static body.
func wall(id, x, y int) api.Body {
	return api.Body{ID: id, Pos: whole(x, y), Angle: api.One / 4, Shape: shape.Box(api.Pi, api.One)}
}

func joint(id, a, b int) api.Joint {
	return api.Joint{ID: id, A: a, B: b, At: whole(a%60, 1), To: whole(-1, b%60), Len: fix.Of(id)}
}

func contact(a, b, key int) api.Contact {
	return api.Contact{A: a, B: b, Key: key, N: fix.Of(a), T: fix.Of(-key)}
}

// scene returns a valid world that has everything, and IDs that are missing.
func scene() api.World {
	return api.World{
		Tick: 7, NextBody: 12, NextJoint: 8, Gravity: whole(1, -10),
		Bodies: []api.Body{ball(2, 1, 3), wall(3, 0, -4), ball(5, -6, 2), wall(9, 8, 8)},
		Joints: []api.Joint{joint(1, 2, 5), joint(4, 9, 3), joint(6, 5, 2)},
		Contacts: []api.Contact{
			contact(2, 3, 0), contact(2, 3, 7), contact(2, 5, 0), contact(3, 9, 1), contact(5, 9, 4),
		},
	}
}

// crowd returns a valid world of so many bodies and joints, from ID 1 on.
func crowd(bodies, joints int) api.World {
	w := api.World{NextBody: bodies + 1, NextJoint: joints + 1}
	for i := range bodies {
		w.Bodies = append(w.Bodies, wall(i+1, i, 0))
	}
	for i := range joints {
		w.Joints = append(w.Joints, joint(i+1, i%bodies+1, (i+1)%bodies+1))
	}
	return w
}

// equal reports whether both are told alike: an empty slice like a nil one.
func equal(a, b any) bool {
	return fmt.Sprintf("%+v", a) == fmt.Sprintf("%+v", b)
}

// noise returns a function that returns numbers from 0 up to below n, always
// the same.
func noise() func(n int) int {
	state := uint64(88172645463325252)
	return func(n int) int {
		state ^= state << 13
		state ^= state >> 7
		state ^= state << 17
		return int(state>>1) % n
	}
}

// A change is one thing that is done to a T, and what it is called.
type change[T any] struct {
	name string
	do   func(*T)
}

// checkRight checks what right says about each changed copy of what start
// returns.
func checkRight[T any](t *testing.T, start func() T, right func(T) bool, want bool, changes []change[T]) {
	t.Helper()
	for _, c := range changes {
		changed := start()
		c.do(&changed)
		if got := right(changed); got != want {
			t.Errorf("%s: Right is %v, want %v", c.name, got, want)
		}
	}
}

func TestNew(t *testing.T) {
	if got, want := world.New(), (api.World{NextBody: 1, NextJoint: 1}); !equal(got, want) {
		t.Errorf("New() = %+v, want %+v", got, want)
	}
	if !world.Right(world.New()) {
		t.Error("a new world isn't valid")
	}
}

func TestHeavy(t *testing.T) {
	if world.Heavy != fix.Of(1024) {
		t.Errorf("Heavy is %d, want 1024", world.Heavy)
	}
}

func anyBall() api.Body { return ball(1, 2, 3) }

func anyWall() api.Body { return wall(1, 2, 3) }

func TestRightBody(t *testing.T) {
	checkRight(t, anyBall, world.RightBody, true, []change[api.Body]{
		{"as it is", func(*api.Body) {}},
		{"X Far", func(b *api.Body) { b.Pos.X = api.Far }},
		{"X -Far", func(b *api.Body) { b.Pos.X = -api.Far }},
		{"Y Far", func(b *api.Body) { b.Pos.Y = api.Far }},
		{"Y -Far", func(b *api.Body) { b.Pos.Y = -api.Far }},
		{"X of Vel Fast", func(b *api.Body) { b.Vel.X = api.Fast }},
		{"X of Vel -Fast", func(b *api.Body) { b.Vel.X = -api.Fast }},
		{"Y of Vel Fast", func(b *api.Body) { b.Vel.Y = api.Fast }},
		{"Y of Vel -Fast", func(b *api.Body) { b.Vel.Y = -api.Fast }},
		{"Spin Whirl", func(b *api.Body) { b.Spin = api.Whirl }},
		{"Spin -Whirl", func(b *api.Body) { b.Spin = -api.Whirl }},
		{"Angle 0", func(b *api.Body) { b.Angle = 0 }},
		{"Angle One - 1", func(b *api.Body) { b.Angle = api.One - 1 }},
		{"Density one unit", func(b *api.Body) { b.Density = 1 }},
		{"Density Heavy", func(b *api.Body) { b.Density = fix.Of(1024) }},
		{"all at rest", func(b *api.Body) { b.Pos, b.Vel, b.Spin, b.Angle = api.V{}, api.V{}, 0, 0 }},
		{"the least circle", func(b *api.Body) { b.Shape.R = shape.Small }},
		{"the greatest circle", func(b *api.Body) { b.Shape.R = shape.Great }},
		{"a polygon", func(b *api.Body) { b.Shape = shape.Box(shape.Great, shape.Great) }},
		{"ID 0", func(b *api.Body) { b.ID = 0 }},
		{"a negative ID", func(b *api.Body) { b.ID = math.MinInt }},
		{"the greatest ID", func(b *api.Body) { b.ID = math.MaxInt }},
	})
	checkRight(t, anyWall, world.RightBody, true, []change[api.Body]{
		{"a wall", func(*api.Body) {}},
		{"a wall that is far away", func(b *api.Body) { b.Pos = api.V{X: -api.Far, Y: api.Far} }},
		{"a wall that is turned", func(b *api.Body) { b.Angle = api.One - 1 }},
	})
}

func TestWrongBody(t *testing.T) {
	changes := []change[api.Body]{
		{"X Far + 1", func(b *api.Body) { b.Pos.X = api.Far + 1 }},
		{"X -Far - 1", func(b *api.Body) { b.Pos.X = -api.Far - 1 }},
		{"Y Far + 1", func(b *api.Body) { b.Pos.Y = api.Far + 1 }},
		{"Y -Far - 1", func(b *api.Body) { b.Pos.Y = -api.Far - 1 }},
		{"X of Vel Fast + 1", func(b *api.Body) { b.Vel.X = api.Fast + 1 }},
		{"X of Vel -Fast - 1", func(b *api.Body) { b.Vel.X = -api.Fast - 1 }},
		{"Y of Vel Fast + 1", func(b *api.Body) { b.Vel.Y = api.Fast + 1 }},
		{"Y of Vel -Fast - 1", func(b *api.Body) { b.Vel.Y = -api.Fast - 1 }},
		{"Spin Whirl + 1", func(b *api.Body) { b.Spin = api.Whirl + 1 }},
		{"Spin -Whirl - 1", func(b *api.Body) { b.Spin = -api.Whirl - 1 }},
		{"Angle One", func(b *api.Body) { b.Angle = api.One }},
		{"Angle -1", func(b *api.Body) { b.Angle = -1 }},
		{"Density -1", func(b *api.Body) { b.Density = -1 }},
		{"Density Heavy + 1", func(b *api.Body) { b.Density = world.Heavy + 1 }},
		{"no shape", func(b *api.Body) { b.Shape = api.Shape{} }},
		{"a circle too small", func(b *api.Body) { b.Shape.R = shape.Small - 1 }},
		{"a polygon backwards", func(b *api.Body) {
			b.Shape = shape.Box(api.One, api.One)
			slices.Reverse(b.Shape.P)
		}},
		{"static with X of Vel", func(b *api.Body) { b.Density, b.Vel, b.Spin = 0, api.V{X: 1}, 0 }},
		{"static with Y of Vel", func(b *api.Body) { b.Density, b.Vel, b.Spin = 0, api.V{Y: -1}, 0 }},
		{"static with Spin", func(b *api.Body) { b.Density, b.Vel, b.Spin = 0, api.V{}, 1 }},
		{"static with Vel and Spin", func(b *api.Body) { b.Density = 0 }},
	}
	for _, far := range []api.F{lowest, api.Least, api.Most} {
		changes = append(changes, []change[api.Body]{
			{"X without end", func(b *api.Body) { b.Pos.X = far }},
			{"Y without end", func(b *api.Body) { b.Pos.Y = far }},
			{"X of Vel without end", func(b *api.Body) { b.Vel.X = far }},
			{"Y of Vel without end", func(b *api.Body) { b.Vel.Y = far }},
			{"Spin without end", func(b *api.Body) { b.Spin = far }},
			{"Angle without end", func(b *api.Body) { b.Angle = far }},
			{"Density without end", func(b *api.Body) { b.Density = far }},
			{"R without end", func(b *api.Body) { b.Shape.R = far }},
		}...)
	}
	checkRight(t, anyBall, world.RightBody, false, changes)
}

func anyJoint() api.Joint { return joint(1, 2, 3) }

func TestRightJoint(t *testing.T) {
	checkRight(t, anyJoint, world.RightJoint, true, []change[api.Joint]{
		{"as it is", func(*api.Joint) {}},
		{"X of At 64", func(j *api.Joint) { j.At.X = arm }},
		{"X of At -64", func(j *api.Joint) { j.At.X = -arm }},
		{"Y of At 64", func(j *api.Joint) { j.At.Y = arm }},
		{"Y of At -64", func(j *api.Joint) { j.At.Y = -arm }},
		{"X of To 64", func(j *api.Joint) { j.To.X = arm }},
		{"X of To -64", func(j *api.Joint) { j.To.X = -arm }},
		{"Y of To 64", func(j *api.Joint) { j.To.Y = arm }},
		{"Y of To -64", func(j *api.Joint) { j.To.Y = -arm }},
		{"Len 0", func(j *api.Joint) { j.Len = 0 }},
		{"Len Far", func(j *api.Joint) { j.Len = api.Far }},
		{"A 1", func(j *api.Joint) { j.A = 1 }},
		{"B 1", func(j *api.Joint) { j.B = 1 }},
		{"A greater than B", func(j *api.Joint) { j.A, j.B = math.MaxInt, 1 }},
		{"ID 0", func(j *api.Joint) { j.ID = 0 }},
		{"a negative ID", func(j *api.Joint) { j.ID = math.MinInt }},
	})
	changes := []change[api.Joint]{
		{"X of At 64 and a unit", func(j *api.Joint) { j.At.X = arm + 1 }},
		{"X of At -64 and a unit", func(j *api.Joint) { j.At.X = -arm - 1 }},
		{"Y of At 64 and a unit", func(j *api.Joint) { j.At.Y = arm + 1 }},
		{"Y of At -64 and a unit", func(j *api.Joint) { j.At.Y = -arm - 1 }},
		{"X of To 64 and a unit", func(j *api.Joint) { j.To.X = arm + 1 }},
		{"X of To -64 and a unit", func(j *api.Joint) { j.To.X = -arm - 1 }},
		{"Y of To 64 and a unit", func(j *api.Joint) { j.To.Y = arm + 1 }},
		{"Y of To -64 and a unit", func(j *api.Joint) { j.To.Y = -arm - 1 }},
		{"Len -1", func(j *api.Joint) { j.Len = -1 }},
		{"Len Far + 1", func(j *api.Joint) { j.Len = api.Far + 1 }},
		{"A 0", func(j *api.Joint) { j.A = 0 }},
		{"B 0", func(j *api.Joint) { j.B = 0 }},
		{"a negative A", func(j *api.Joint) { j.A = math.MinInt }},
		{"a negative B", func(j *api.Joint) { j.B = -1 }},
		{"A and B the same", func(j *api.Joint) { j.A = j.B }},
		{"nothing", func(j *api.Joint) { *j = api.Joint{} }},
	}
	for _, far := range []api.F{lowest, api.Least, api.Most} {
		changes = append(changes, []change[api.Joint]{
			{"X of At without end", func(j *api.Joint) { j.At.X = far }},
			{"Y of At without end", func(j *api.Joint) { j.At.Y = far }},
			{"X of To without end", func(j *api.Joint) { j.To.X = far }},
			{"Y of To without end", func(j *api.Joint) { j.To.Y = far }},
			{"Len without end", func(j *api.Joint) { j.Len = far }},
		}...)
	}
	checkRight(t, anyJoint, world.RightJoint, false, changes)
}

func TestRight(t *testing.T) {
	checkRight(t, scene, world.Right, true, []change[api.World]{
		{"as it is", func(*api.World) {}},
		{"Tick 0", func(w *api.World) { w.Tick = 0 }},
		{"Tick 2^62", func(w *api.World) { w.Tick = last }},
		{"NextBody just above", func(w *api.World) { w.NextBody = 10 }},
		{"NextBody 2^62", func(w *api.World) { w.NextBody = last }},
		{"NextJoint just above", func(w *api.World) { w.NextJoint = 7 }},
		{"NextJoint 2^62", func(w *api.World) { w.NextJoint = last }},
		{"ID 1", func(w *api.World) { w.Bodies = slices.Insert(w.Bodies, 0, wall(1, 0, 0)) }},
		{"ID 2^62 - 1", func(w *api.World) {
			w.NextBody, w.Bodies = last, append(w.Bodies, wall(last-1, 0, 0))
		}},
		{"joint of ID 2^62 - 1", func(w *api.World) { w.NextJoint, w.Joints[2].ID = last, last-1 }},
		{"Gravity Fast", func(w *api.World) { w.Gravity = api.V{X: api.Fast, Y: api.Fast} }},
		{"Gravity -Fast", func(w *api.World) { w.Gravity = api.V{X: -api.Fast, Y: -api.Fast} }},
		{"no gravity", func(w *api.World) { w.Gravity = api.V{} }},
		{"no joints", func(w *api.World) { w.Joints = nil }},
		{"no contacts", func(w *api.World) { w.Contacts = []api.Contact{} }},
		{"bodies alone", func(w *api.World) { w.Joints, w.Contacts = []api.Joint{}, nil }},
		{"nothing, any longer", func(w *api.World) { w.Bodies, w.Joints, w.Contacts = nil, nil, nil }},
		{"two joints of the same bodies", func(w *api.World) { w.Joints[1].A, w.Joints[1].B = 2, 5 }},
		{"contact without impulses", func(w *api.World) { w.Contacts[1].N, w.Contacts[1].T = 0, 0 }},
		{"N and T Most", func(w *api.World) { w.Contacts[1].N, w.Contacts[1].T = api.Most, api.Most }},
		{"T Least", func(w *api.World) { w.Contacts[1].T = api.Least }},
		{"the greatest key", func(w *api.World) { w.Contacts[1].Key = math.MaxInt }},
		{"keys that follow each other", func(w *api.World) { w.Contacts[1].Key = 1 }},
		{"a key less than the one before", func(w *api.World) { w.Contacts[2].Key, w.Contacts[1].Key = 0, 9 }},
		{"B less than the one before", func(w *api.World) { w.Contacts[2].B, w.Contacts[3].B = 9, 5 }},
		{"more contacts than bodies", func(w *api.World) {
			w.Contacts = nil
			for key := range 5000 {
				w.Contacts = append(w.Contacts, contact(3, 5, key))
			}
		}},
	})
}

func TestWrongNumbers(t *testing.T) {
	changes := []change[api.World]{
		{"the zero world", func(w *api.World) { *w = api.World{} }},
		{"Tick -1", func(w *api.World) { w.Tick = -1 }},
		{"Tick 2^62 + 1", func(w *api.World) { w.Tick = last + 1 }},
		{"Tick the least", func(w *api.World) { w.Tick = math.MinInt }},
		{"Tick the greatest", func(w *api.World) { w.Tick = math.MaxInt }},
		{"NextBody that is there", func(w *api.World) { w.NextBody = 9 }},
		{"NextBody below all", func(w *api.World) { w.NextBody = 1 }},
		{"NextBody 0", func(w *api.World) { w.NextBody = 0 }},
		{"NextBody 0, no bodies", func(w *api.World) { *w = world.New(); w.NextBody = 0 }},
		{"NextBody -1, no bodies", func(w *api.World) { *w = world.New(); w.NextBody = -1 }},
		{"NextBody 2^62 + 1", func(w *api.World) { w.NextBody = last + 1 }},
		{"NextBody the greatest", func(w *api.World) { w.NextBody = math.MaxInt }},
		{"NextJoint that is there", func(w *api.World) { w.NextJoint = 6 }},
		{"NextJoint below all", func(w *api.World) { w.NextJoint = 1 }},
		{"NextJoint 0, no joints", func(w *api.World) { *w = world.New(); w.NextJoint = 0 }},
		{"NextJoint the least, no joints", func(w *api.World) { *w = world.New(); w.NextJoint = math.MinInt }},
		{"NextJoint 2^62 + 1", func(w *api.World) { w.NextJoint = last + 1 }},
		{"X of Gravity Fast + 1", func(w *api.World) { w.Gravity.X = api.Fast + 1 }},
		{"X of Gravity -Fast - 1", func(w *api.World) { w.Gravity.X = -api.Fast - 1 }},
		{"Y of Gravity Fast + 1", func(w *api.World) { w.Gravity.Y = api.Fast + 1 }},
		{"Y of Gravity -Fast - 1", func(w *api.World) { w.Gravity.Y = -api.Fast - 1 }},
	}
	for _, far := range []api.F{lowest, api.Least, api.Most} {
		changes = append(changes, []change[api.World]{
			{"X of Gravity without end", func(w *api.World) { w.Gravity.X = far }},
			{"Y of Gravity without end", func(w *api.World) { w.Gravity.Y = far }},
		}...)
	}
	checkRight(t, scene, world.Right, false, changes)
}

func TestWrongLists(t *testing.T) {
	checkRight(t, scene, world.Right, false, []change[api.World]{
		{"body of ID 0", func(w *api.World) { w.Bodies = slices.Insert(w.Bodies, 0, wall(0, 0, 0)) }},
		{"body of ID -1", func(w *api.World) { w.Bodies = slices.Insert(w.Bodies, 0, wall(-1, 0, 0)) }},
		{"body of the least ID", func(w *api.World) { w.Bodies = slices.Insert(w.Bodies, 0, wall(math.MinInt, 0, 0)) }},
		{"body of ID NextBody", func(w *api.World) { w.Bodies = append(w.Bodies, wall(12, 0, 0)) }},
		{"body of the greatest ID", func(w *api.World) { w.Bodies = append(w.Bodies, wall(math.MaxInt, 0, 0)) }},
		{"two bodies of an ID", func(w *api.World) { w.Bodies = slices.Insert(w.Bodies, 1, wall(2, 0, 0)) }},
		{"the last two of an ID", func(w *api.World) { w.Bodies = append(w.Bodies, wall(9, 0, 0)) }},
		{"bodies exchanged", func(w *api.World) { w.Bodies[0], w.Bodies[1] = w.Bodies[1], w.Bodies[0] }},
		{"the last bodies exchanged", func(w *api.World) { w.Bodies[2], w.Bodies[3] = w.Bodies[3], w.Bodies[2] }},
		{"invalid first body", func(w *api.World) { w.Bodies[0].Angle = api.One }},
		{"invalid last body", func(w *api.World) { w.Bodies[3].Spin = 1 }},
		{"joint of ID 0", func(w *api.World) { w.Joints[0].ID = 0 }},
		{"joint of ID -1", func(w *api.World) { w.Joints[0].ID = -1 }},
		{"joint of ID NextJoint", func(w *api.World) { w.Joints[2].ID = 8 }},
		{"two joints of an ID", func(w *api.World) { w.Joints[1].ID = 1 }},
		{"the last two joints of an ID", func(w *api.World) { w.Joints[2].ID = 4 }},
		{"joints exchanged", func(w *api.World) { w.Joints[1], w.Joints[2] = w.Joints[2], w.Joints[1] }},
		{"invalid first joint", func(w *api.World) { w.Joints[0].Len = -1 }},
		{"invalid last joint", func(w *api.World) { w.Joints[2].At.X = arm + 1 }},
		{"joint of a body with itself", func(w *api.World) { w.Joints[1].A = 3 }},
		{"A doesn't exist", func(w *api.World) { w.Joints[1].A = 4 }},
		{"B doesn't exist", func(w *api.World) { w.Joints[1].B = 10 }},
		{"neither exists", func(w *api.World) { w.Joints[1].A, w.Joints[1].B = 1, 11 }},
		{"joints without bodies", func(w *api.World) { w.Bodies, w.Contacts = nil, nil }},
		{"bodies exchanged, which a joint needs", func(w *api.World) {
			w.Bodies[0], w.Bodies[3], w.Contacts = w.Bodies[3], w.Bodies[0], nil
		}},
	})
}

func TestWrongContacts(t *testing.T) {
	checkRight(t, scene, world.Right, false, []change[api.World]{
		{"A the same as B", func(w *api.World) { w.Contacts[0].A, w.Contacts[0].B = 2, 2 }},
		{"A greater than B", func(w *api.World) { w.Contacts[3].A, w.Contacts[3].B = 9, 3 }},
		{"the last one's A greater than B", func(w *api.World) { w.Contacts[4].A, w.Contacts[4].B = 9, 5 }},
		{"A doesn't exist", func(w *api.World) { w.Contacts[0].A = 1 }},
		{"A 0", func(w *api.World) { w.Contacts[0].A = 0 }},
		{"a negative A", func(w *api.World) { w.Contacts[0].A = -2 }},
		{"B doesn't exist", func(w *api.World) { w.Contacts[4].B = 10 }},
		{"a negative key", func(w *api.World) { w.Contacts[0].Key = -1 }},
		{"the least key", func(w *api.World) { w.Contacts[4].Key = math.MinInt }},
		{"N -1", func(w *api.World) { w.Contacts[0].N = -1 }},
		{"the last one's N -1", func(w *api.World) { w.Contacts[4].N = -1 }},
		{"N Least", func(w *api.World) { w.Contacts[2].N = api.Least }},
		{"N -2^63", func(w *api.World) { w.Contacts[2].N = lowest }},
		{"two of a key", func(w *api.World) { w.Contacts[1].Key = 0 }},
		{"two of a key with other impulses", func(w *api.World) { w.Contacts[1] = api.Contact{A: 2, B: 3, N: 99, T: 98} }},
		{"keys exchanged", func(w *api.World) { w.Contacts[0].Key, w.Contacts[1].Key = 7, 0 }},
		{"B exchanged", func(w *api.World) { w.Contacts[1].B, w.Contacts[2].B = 5, 3 }},
		{"A exchanged", func(w *api.World) { w.Contacts[3].A, w.Contacts[4].A = 5, 3 }},
		{"the first and the last exchanged", func(w *api.World) { w.Contacts[0], w.Contacts[4] = w.Contacts[4], w.Contacts[0] }},
		{"the last one again", func(w *api.World) { w.Contacts = append(w.Contacts, w.Contacts[4]) }},
		{"contacts without bodies", func(w *api.World) { w.Bodies, w.Joints = nil, nil }},
	})
}

func TestRightAtTheLimits(t *testing.T) {
	for _, l := range []struct {
		bodies, joints int
		want           bool
	}{
		{1023, 1023, true},
		{1024, 1024, true},
		{1025, 0, false},
		{1025, 1025, false},
		{3, 1024, true},
		{3, 1025, false},
		{1024, 1025, false},
		{2048, 1, false},
	} {
		if got := world.Right(crowd(l.bodies, l.joints)); got != l.want {
			t.Errorf("Right of %d bodies and %d joints is %v", l.bodies, l.joints, got)
		}
	}
}

// valid is the chapter's condition of a valid world, sentence by sentence, but
// for the bodies and joints themselves.
func valid(w api.World) bool {
	there := map[int]bool{}
	for i, b := range w.Bodies {
		if b.ID < 1 || b.ID >= w.NextBody || i > 0 && b.ID <= w.Bodies[i-1].ID || !world.RightBody(b) {
			return false
		}
		there[b.ID] = true
	}
	for i, j := range w.Joints {
		if j.ID < 1 || j.ID >= w.NextJoint || i > 0 && j.ID <= w.Joints[i-1].ID || !world.RightJoint(j) || !there[j.A] || !there[j.B] {
			return false
		}
	}
	for i, c := range w.Contacts {
		if c.A >= c.B || !there[c.A] || !there[c.B] || c.Key < 0 || c.N < 0 {
			return false
		}
		if i > 0 && slices.Compare(key(w.Contacts[i-1]), key(c)) >= 0 {
			return false
		}
	}
	return w.Tick >= 0 && w.Tick <= last && w.NextBody >= 1 && w.NextBody <= last && w.NextJoint >= 1 && w.NextJoint <= last &&
		len(w.Bodies) <= 1024 && len(w.Joints) <= 1024 &&
		inFast(w.Gravity.X) && inFast(w.Gravity.Y)
}

func inFast(a api.F) bool {
	return a >= -api.Fast && a <= api.Fast
}

func key(c api.Contact) []int {
	return []int{c.A, c.B, c.Key}
}

// near returns a world of few small IDs, which is valid now and then.
func near(next func(n int) int) api.World {
	w := api.World{NextBody: 6 + next(4), NextJoint: 4 + next(4)}
	id := 0
	for range next(5) {
		id += gap(next)
		w.Bodies = append(w.Bodies, wall(id, 0, 0))
	}
	some := func() int {
		if len(w.Bodies) == 0 || next(24) == 0 {
			return next(6)
		}
		return w.Bodies[next(len(w.Bodies))].ID
	}
	id = 0
	for range next(3) {
		id += gap(next)
		w.Joints = append(w.Joints, joint(id, some(), some()))
	}
	for range next(4) {
		a, b := some(), some()
		if next(8) > 0 {
			a, b = min(a, b), max(a, b)
		}
		w.Contacts = append(w.Contacts, api.Contact{A: a, B: b, Key: next(6) - next(6)/5, N: api.F(next(9) - next(9)/8)})
	}
	if next(8) > 0 {
		slices.SortFunc(w.Contacts, func(a, b api.Contact) int { return slices.Compare(key(a), key(b)) })
	}
	return w
}

// gap returns 1 or 2, and sometimes 0.
func gap(next func(n int) int) int {
	if next(16) == 0 {
		return 0
	}
	return 1 + next(2)
}

func TestRightOfMany(t *testing.T) {
	next := noise()
	var right, wrong int
	for range 30000 {
		w := near(next)
		want := valid(w)
		if got := world.Right(w); got != want {
			t.Fatalf("Right(%+v) = %v", w, got)
		}
		if want {
			right++
		} else {
			wrong++
		}
	}
	if right < 3000 || wrong < 3000 {
		t.Errorf("%d valid and %d invalid worlds", right, wrong)
	}
}

// differences are all single changes of a scene by which it isn't the same.
func differences() []change[api.World] {
	l := []change[api.World]{
		{"Tick", func(w *api.World) { w.Tick++ }},
		{"NextBody", func(w *api.World) { w.NextBody++ }},
		{"NextJoint", func(w *api.World) { w.NextJoint++ }},
		{"X of Gravity", func(w *api.World) { w.Gravity.X++ }},
		{"Y of Gravity", func(w *api.World) { w.Gravity.Y++ }},
		{"a body more", func(w *api.World) { w.Bodies = append(w.Bodies, wall(10, 0, 0)) }},
		{"a body less", func(w *api.World) { w.Bodies = w.Bodies[:3] }},
		{"another first body", func(w *api.World) { w.Bodies = w.Bodies[1:] }},
		{"no bodies", func(w *api.World) { w.Bodies = nil }},
		{"bodies exchanged", func(w *api.World) { w.Bodies[1], w.Bodies[2] = w.Bodies[2], w.Bodies[1] }},
		{"a joint more", func(w *api.World) { w.Joints = append(w.Joints, joint(7, 2, 3)) }},
		{"a joint less", func(w *api.World) { w.Joints = w.Joints[:2] }},
		{"no joints", func(w *api.World) { w.Joints = nil }},
		{"joints exchanged", func(w *api.World) { w.Joints[1], w.Joints[2] = w.Joints[2], w.Joints[1] }},
		{"a contact more", func(w *api.World) { w.Contacts = append(w.Contacts, contact(5, 9, 5)) }},
		{"a contact less", func(w *api.World) { w.Contacts = w.Contacts[:4] }},
		{"no contacts", func(w *api.World) { w.Contacts = nil }},
		{"contacts exchanged", func(w *api.World) { w.Contacts[1], w.Contacts[2] = w.Contacts[2], w.Contacts[1] }},
	}
	for i := range scene().Bodies {
		l = append(l, []change[api.World]{
			{"ID of a body", func(w *api.World) { w.Bodies[i].ID++ }},
			{"X of Pos", func(w *api.World) { w.Bodies[i].Pos.X++ }},
			{"Y of Pos", func(w *api.World) { w.Bodies[i].Pos.Y++ }},
			{"X of Vel", func(w *api.World) { w.Bodies[i].Vel.X++ }},
			{"Y of Vel", func(w *api.World) { w.Bodies[i].Vel.Y++ }},
			{"Angle", func(w *api.World) { w.Bodies[i].Angle++ }},
			{"Spin", func(w *api.World) { w.Bodies[i].Spin++ }},
			{"Density", func(w *api.World) { w.Bodies[i].Density++ }},
			{"Kind", func(w *api.World) { w.Bodies[i].Shape.Kind = 3 }},
			{"R", func(w *api.World) { w.Bodies[i].Shape.R++ }},
			{"a corner more", func(w *api.World) {
				w.Bodies[i].Shape.P = append(slices.Clone(w.Bodies[i].Shape.P), api.V{})
			}},
		}...)
	}
	for i := range scene().Bodies[1].Shape.P {
		l = append(l, []change[api.World]{
			{"X of a corner", func(w *api.World) { w.Bodies[1].Shape.P[i].X++ }},
			{"Y of a corner", func(w *api.World) { w.Bodies[1].Shape.P[i].Y++ }},
		}...)
	}
	for i := range scene().Joints {
		l = append(l, []change[api.World]{
			{"ID of a joint", func(w *api.World) { w.Joints[i].ID++ }},
			{"A of a joint", func(w *api.World) { w.Joints[i].A++ }},
			{"B of a joint", func(w *api.World) { w.Joints[i].B++ }},
			{"X of At", func(w *api.World) { w.Joints[i].At.X++ }},
			{"Y of At", func(w *api.World) { w.Joints[i].At.Y++ }},
			{"X of To", func(w *api.World) { w.Joints[i].To.X++ }},
			{"Y of To", func(w *api.World) { w.Joints[i].To.Y++ }},
			{"Len", func(w *api.World) { w.Joints[i].Len++ }},
		}...)
	}
	for i := range scene().Contacts {
		l = append(l, []change[api.World]{
			{"A of a contact", func(w *api.World) { w.Contacts[i].A++ }},
			{"B of a contact", func(w *api.World) { w.Contacts[i].B++ }},
			{"Key", func(w *api.World) { w.Contacts[i].Key++ }},
			{"N", func(w *api.World) { w.Contacts[i].N++ }},
			{"T", func(w *api.World) { w.Contacts[i].T++ }},
		}...)
	}
	return l
}

func TestSame(t *testing.T) {
	if !world.Same(scene(), scene()) || !world.Same(world.New(), world.New()) {
		t.Error("a world isn't the same as one like it")
	}
	empty := api.World{NextBody: 1, NextJoint: 1, Bodies: []api.Body{}, Joints: []api.Joint{}, Contacts: []api.Contact{}}
	if !world.Same(empty, world.New()) || !world.Same(world.New(), empty) {
		t.Error("an empty slice isn't the same as no slice")
	}
	bare := scene()
	bare.Bodies[0].Shape.P = []api.V{}
	if !world.Same(bare, scene()) || !world.Same(scene(), bare) {
		t.Error("an empty slice of corners isn't the same as no slice")
	}
	all := differences()
	for i, c := range all {
		one := scene()
		c.do(&one)
		if world.Same(one, scene()) || world.Same(scene(), one) {
			t.Errorf("Same overlooks %s (change %d)", c.name, i)
		}
		other := scene()
		c.do(&other)
		if !world.Same(one, other) {
			t.Errorf("Same sees a difference after the same change: %s (change %d)", c.name, i)
		}
	}
}

// spoil changes each element of the slices of w, and of those of its shapes, and
// adds to them.
func spoil(w *api.World) {
	for i := range w.Bodies {
		for k := range w.Bodies[i].Shape.P {
			w.Bodies[i].Shape.P[k] = whole(77, 77)
		}
		_ = append(w.Bodies[i].Shape.P, whole(78, 78))
		w.Bodies[i] = api.Body{ID: 79}
	}
	for i := range w.Joints {
		w.Joints[i] = api.Joint{ID: 80}
	}
	for i := range w.Contacts {
		w.Contacts[i] = api.Contact{A: 81}
	}
	_ = append(w.Bodies, api.Body{ID: 82})
	_ = append(w.Joints, api.Joint{ID: 83})
	_ = append(w.Contacts, api.Contact{A: 84})
}

// roomy returns w with slices that have room after their ends, with something in
// it, and a function that tells all that lies in them.
func roomy(w api.World) (api.World, func() string) {
	bodies := append(slices.Clone(w.Bodies), ball(101, 1, 1), ball(102, 2, 2))
	for i, b := range bodies {
		corners := append(slices.Clone(b.Shape.P), whole(i, 103))
		bodies[i].Shape.P = corners[:len(b.Shape.P)]
	}
	joints := append(slices.Clone(w.Joints), joint(104, 1, 2), joint(105, 1, 2))
	contacts := append(slices.Clone(w.Contacts), contact(106, 107, 1), contact(108, 109, 2))
	w.Bodies, w.Joints, w.Contacts = bodies[:len(w.Bodies)], joints[:len(w.Joints)], contacts[:len(w.Contacts)]
	return w, func() string {
		text := fmt.Sprint(bodies, joints, contacts)
		for _, b := range bodies {
			text += fmt.Sprint(b.Shape.P[:len(b.Shape.P)+1])
		}
		return text
	}
}

func TestCopy(t *testing.T) {
	for _, w := range []api.World{scene(), world.New(), {}, crowd(20, 20), {Bodies: []api.Body{{Shape: api.Shape{Kind: 7, P: make([]api.V, 9)}}}}} {
		w, told := roomy(w)
		before, all := fmt.Sprint(w), told()
		got := world.Copy(w)
		if !equal(got, w) || !world.Same(got, w) {
			t.Fatalf("Copy(%+v) = %+v", w, got)
		}
		spoil(&got)
		if fmt.Sprint(w) != before || told() != all {
			t.Fatal("a copy shares memory with what it is a copy of")
		}
		one, other := world.Copy(w), world.Copy(w)
		spoil(&one)
		if !equal(other, w) {
			t.Fatal("two copies share memory")
		}
	}
}

// someIDs returns some IDs up to n, ascending.
func someIDs(next func(n int) int, n int) []int {
	var l []int
	for id := range n {
		if next(3) > 0 {
			l = append(l, id+1)
		}
	}
	return l
}

// many returns a valid world of some small IDs.
func many(next func(n int) int) api.World {
	w := api.World{NextBody: 16, NextJoint: 21}
	ids := someIDs(next, 15)
	for _, id := range ids {
		w.Bodies = append(w.Bodies, ball(id, id, -id))
	}
	for _, id := range someIDs(next, 20) {
		if len(ids) < 2 {
			break
		}
		at := next(len(ids))
		w.Joints = append(w.Joints, joint(id, ids[at], ids[(at+1+next(len(ids)-1))%len(ids)]))
	}
	for i, a := range ids {
		for _, b := range ids[i+1:] {
			for k := range next(4) {
				w.Contacts = append(w.Contacts, api.Contact{A: a, B: b, Key: 2*k + next(2), N: api.F(next(99)), T: api.F(next(99) - 49)})
			}
		}
	}
	return w
}

func TestBodyAndJoint(t *testing.T) {
	next := noise()
	for range 200 {
		w := many(next)
		ids := []int{math.MinInt, -1, last, math.MaxInt}
		for id := range 25 {
			ids = append(ids, id)
		}
		for _, id := range ids {
			want := slices.IndexFunc(w.Bodies, func(b api.Body) bool { return b.ID == id })
			if i, ok := world.Body(w, id); ok != (want >= 0) || i != max(want, 0) {
				t.Fatalf("Body(%+v, %d) = %d, %v, want %d", w, id, i, ok, want)
			}
			want = slices.IndexFunc(w.Joints, func(j api.Joint) bool { return j.ID == id })
			if i, ok := world.Joint(w, id); ok != (want >= 0) || i != max(want, 0) {
				t.Fatalf("Joint(%+v, %d) = %d, %v, want %d", w, id, i, ok, want)
			}
		}
	}
}

func TestBodyAndJointOfAScene(t *testing.T) {
	for id, want := range map[int]int{2: 0, 3: 1, 5: 2, 9: 3} {
		if i, ok := world.Body(scene(), id); i != want || !ok {
			t.Errorf("Body %d is at %d, %v", id, i, ok)
		}
	}
	for id, want := range map[int]int{1: 0, 4: 1, 6: 2} {
		if i, ok := world.Joint(scene(), id); i != want || !ok {
			t.Errorf("Joint %d is at %d, %v", id, i, ok)
		}
	}
	for _, id := range []int{1, 4, 10, 12, 0, -2} {
		if i, ok := world.Body(scene(), id); i != 0 || ok {
			t.Errorf("Body %d is at %d, %v", id, i, ok)
		}
	}
	for _, id := range []int{2, 3, 5, 7, 8, 0, -1} {
		if i, ok := world.Joint(scene(), id); i != 0 || ok {
			t.Errorf("Joint %d is at %d, %v", id, i, ok)
		}
	}
	if i, ok := world.Body(world.New(), 1); i != 0 || ok {
		t.Errorf("a new world has Body 1 at %d, %v", i, ok)
	}
	if i, ok := world.Joint(world.New(), 1); i != 0 || ok {
		t.Errorf("a new world has Joint 1 at %d, %v", i, ok)
	}
}

func TestContact(t *testing.T) {
	for _, c := range scene().Contacts {
		if got, ok := world.Contact(scene(), c.A, c.B, c.Key); got != c || !ok {
			t.Errorf("Contact %d, %d, %d is %+v, %v", c.A, c.B, c.Key, got, ok)
		}
	}
	for _, c := range [][3]int{{2, 3, 1}, {2, 3, 8}, {2, 3, -1}, {3, 2, 0}, {2, 9, 0}, {9, 5, 4}, {5, 9, 0}, {0, 0, 0}, {2, 4, 0}, {math.MinInt, 3, 0}, {2, math.MaxInt, 0}} {
		if got, ok := world.Contact(scene(), c[0], c[1], c[2]); got != (api.Contact{}) || ok {
			t.Errorf("Contact %v is %+v, %v", c, got, ok)
		}
	}
	next := noise()
	for range 20 {
		w := many(next)
		for a := range 17 {
			for b := range 17 {
				for key := range 8 {
					checkContact(t, w, a, b, key)
				}
			}
		}
	}
}

func checkContact(t *testing.T, w api.World, a, b, key int) {
	t.Helper()
	var want api.Contact
	there := false
	for _, c := range w.Contacts {
		if c.A == a && c.B == b && c.Key == key {
			want, there = c, true
		}
	}
	if got, ok := world.Contact(w, a, b, key); got != want || ok != there {
		t.Fatalf("Contact(%+v, %d, %d, %d) = %+v, %v, want %+v", w, a, b, key, got, ok, want)
	}
}

func TestAddBody(t *testing.T) {
	w := world.New()
	for want := 1; want <= 2; want++ {
		if id, e := world.AddBody(&w, api.Body{Shape: disc()}); id != want || e != api.OK {
			t.Errorf("AddBody returns %d, %v, want %d", id, e, want)
		}
	}
	want := api.World{NextBody: 3, NextJoint: 1, Bodies: []api.Body{{ID: 1, Shape: disc()}, {ID: 2, Shape: disc()}}}
	if !equal(w, want) {
		t.Errorf("AddBody leads to %+v, want %+v", w, want)
	}
	for _, id := range []int{0, -5, 3, 12, math.MaxInt} {
		w, want := scene(), scene()
		got, e := world.AddBody(&w, ball(id, 5, 6))
		want.Bodies, want.NextBody = append(want.Bodies, ball(12, 5, 6)), 13
		if got != 12 || e != api.OK || !equal(w, want) {
			t.Errorf("AddBody with ID %d returns %d, %v, and leads to %+v", id, got, e, w)
		}
	}
}

func TestAddBodyCopiesTheShape(t *testing.T) {
	w, b := scene(), wall(0, 1, 1)
	first, _ := world.AddBody(&w, b)
	second, _ := world.AddBody(&w, b)
	b.Shape.P[0] = whole(50, 50)
	i, _ := world.Body(w, first)
	k, _ := world.Body(w, second)
	w.Bodies[i].Shape.P[1] = whole(60, 60)
	if got, want := w.Bodies[i].Shape.P[0], (api.V{X: -api.Pi, Y: -api.One}); got != want {
		t.Errorf("the body has the corner %v, want %v: it isn't its own", got, want)
	}
	if got, want := w.Bodies[k].Shape, shape.Box(api.Pi, api.One); !shape.Same(got, want) {
		t.Errorf("the second body is %v, want %v: its corners aren't its own", got, want)
	}
}

// checkAddBody checks AddBody's answer, and that nothing changes with an error.
func checkAddBody(t *testing.T, name string, w api.World, b api.Body, id int, e api.Errno) {
	t.Helper()
	before := fmt.Sprint(w)
	gotID, got := world.AddBody(&w, b)
	if gotID != id || got != e {
		t.Errorf("%s: AddBody returns %d, %d, want %d, %d", name, gotID, got, id, e)
	}
	if e != api.OK && fmt.Sprint(w) != before {
		t.Errorf("%s: AddBody has changed the world", name)
	}
	if !world.Right(w) {
		t.Errorf("%s: the world isn't valid any longer", name)
	}
}

func TestAddBodyErrors(t *testing.T) {
	wrong := ball(1, 2, 3)
	wrong.Angle = api.One
	moved := wall(1, 2, 3)
	moved.Vel.X = 1
	ended := scene()
	ended.NextBody = last
	endedFull := crowd(1024, 5)
	endedFull.NextBody = last
	ending := scene()
	ending.NextBody = last - 1
	checkAddBody(t, "an angle of 1", scene(), wrong, 0, api.ErrArg)
	checkAddBody(t, "a static body that moves", scene(), moved, 0, api.ErrArg)
	checkAddBody(t, "nothing", world.New(), api.Body{}, 0, api.ErrArg)
	checkAddBody(t, "1023 bodies", crowd(1023, 1024), anyBall(), 1024, api.OK)
	checkAddBody(t, "1024 bodies", crowd(1024, 0), anyBall(), 0, api.ErrFull)
	checkAddBody(t, "1024 bodies, invalid one", crowd(1024, 0), wrong, 0, api.ErrArg)
	checkAddBody(t, "NextBody 2^62", ended, anyBall(), 0, api.ErrFull)
	checkAddBody(t, "NextBody 2^62, invalid one", ended, wrong, 0, api.ErrArg)
	checkAddBody(t, "NextBody 2^62 and 1024 bodies", endedFull, anyBall(), 0, api.ErrFull)
	checkAddBody(t, "NextBody 2^62 - 1", ending, anyBall(), last-1, api.OK)
	world.AddBody(&ending, anyBall())
	if ending.NextBody != last {
		t.Errorf("NextBody is %d, want 2^62", ending.NextBody)
	}
	checkAddBody(t, "after the last ID", ending, anyBall(), 0, api.ErrFull)
}

func TestAddBodyUpToTheLimit(t *testing.T) {
	w := world.New()
	for want := 1; want <= 1024; want++ {
		if id, e := world.AddBody(&w, anyWall()); id != want || e != api.OK {
			t.Fatalf("AddBody returns %d, %v, want %d", id, e, want)
		}
	}
	checkAddBody(t, "1024 bodies were added", w, anyWall(), 0, api.ErrFull)
	if !world.RemoveBody(&w, 1000) {
		t.Error("there is no body 1000")
	}
	checkAddBody(t, "one is gone", w, anyWall(), 1025, api.OK)
}

func TestAddJoint(t *testing.T) {
	for _, id := range []int{0, -5, 4, 8, math.MaxInt} {
		w, want := scene(), scene()
		j := joint(2, 9, 2)
		j.ID = id
		got, e := world.AddJoint(&w, j)
		j.ID = 8
		want.Joints, want.NextJoint = append(want.Joints, j), 9
		if got != 8 || e != api.OK || !equal(w, want) {
			t.Errorf("AddJoint with ID %d returns %d, %v, and leads to %+v", id, got, e, w)
		}
	}
	w := crowd(2, 0)
	for want := 1; want <= 1024; want++ {
		if id, e := world.AddJoint(&w, joint(0, 1, 2)); id != want || e != api.OK {
			t.Fatalf("AddJoint returns %d, %v, want %d", id, e, want)
		}
	}
	checkAddJoint(t, "1024 joints were added", w, joint(0, 1, 2), 0, api.ErrFull)
	if !world.RemoveJoint(&w, 1000) {
		t.Error("there is no joint 1000")
	}
	checkAddJoint(t, "one is gone", w, joint(0, 1, 2), 1025, api.OK)
}

// checkAddJoint checks AddJoint's answer, and that nothing changes with an
// error.
func checkAddJoint(t *testing.T, name string, w api.World, j api.Joint, id int, e api.Errno) {
	t.Helper()
	before := fmt.Sprint(w)
	gotID, got := world.AddJoint(&w, j)
	if gotID != id || got != e {
		t.Errorf("%s: AddJoint returns %d, %d, want %d, %d", name, gotID, got, id, e)
	}
	if e != api.OK && fmt.Sprint(w) != before {
		t.Errorf("%s: AddJoint has changed the world", name)
	}
	if !world.Right(w) {
		t.Errorf("%s: the world isn't valid any longer", name)
	}
}

func TestAddJointErrors(t *testing.T) {
	fits, none := joint(0, 2, 5), joint(0, 2, 4)
	wrong := none
	wrong.Len = -1
	ended := scene()
	ended.NextJoint = last
	ending := scene()
	ending.NextJoint = last - 1
	full := crowd(20, 1024)
	checkAddJoint(t, "Len -1", scene(), joint(-1, 2, 5), 0, api.ErrArg)
	checkAddJoint(t, "a body with itself", scene(), joint(0, 2, 2), 0, api.ErrArg)
	checkAddJoint(t, "A 0", scene(), joint(0, 0, 2), 0, api.ErrArg)
	checkAddJoint(t, "B -1", scene(), joint(0, 2, -1), 0, api.ErrArg)
	checkAddJoint(t, "B doesn't exist", scene(), none, 0, api.ErrNone)
	checkAddJoint(t, "A doesn't exist", scene(), joint(0, 4, 2), 0, api.ErrNone)
	checkAddJoint(t, "neither exists", scene(), joint(0, 4, 12), 0, api.ErrNone)
	checkAddJoint(t, "no bodies", world.New(), fits, 0, api.ErrNone)
	checkAddJoint(t, "invalid, of one that doesn't exist", scene(), wrong, 0, api.ErrArg)
	checkAddJoint(t, "1023 joints", crowd(20, 1023), fits, 1024, api.OK)
	checkAddJoint(t, "1024 joints", full, fits, 0, api.ErrFull)
	checkAddJoint(t, "1024 joints, B doesn't exist", full, joint(0, 1, 21), 0, api.ErrNone)
	checkAddJoint(t, "1024 joints, invalid one", full, wrong, 0, api.ErrArg)
	checkAddJoint(t, "NextJoint 2^62", ended, fits, 0, api.ErrFull)
	checkAddJoint(t, "NextJoint 2^62, B doesn't exist", ended, none, 0, api.ErrNone)
	checkAddJoint(t, "NextJoint 2^62, invalid one", ended, wrong, 0, api.ErrArg)
	checkAddJoint(t, "NextJoint 2^62 - 1", ending, fits, last-1, api.OK)
	world.AddJoint(&ending, fits)
	if ending.NextJoint != last {
		t.Errorf("NextJoint is %d, want 2^62", ending.NextJoint)
	}
	checkAddJoint(t, "after the last ID", ending, fits, 0, api.ErrFull)
}

// withoutBody is the chapter's RemoveBody.
func withoutBody(w api.World, id int) api.World {
	var got api.World
	got.Tick, got.NextBody, got.NextJoint, got.Gravity = w.Tick, w.NextBody, w.NextJoint, w.Gravity
	for _, b := range w.Bodies {
		if b.ID != id {
			got.Bodies = append(got.Bodies, b)
		}
	}
	for _, j := range w.Joints {
		if j.A != id && j.B != id {
			got.Joints = append(got.Joints, j)
		}
	}
	for _, c := range w.Contacts {
		if c.A != id && c.B != id {
			got.Contacts = append(got.Contacts, c)
		}
	}
	return got
}

// withoutJoint is the chapter's RemoveJoint.
func withoutJoint(w api.World, id int) api.World {
	var kept []api.Joint
	for _, j := range w.Joints {
		if j.ID != id {
			kept = append(kept, j)
		}
	}
	w.Joints = kept
	return w
}

func TestRemoveBody(t *testing.T) {
	w := scene()
	if !world.RemoveBody(&w, 5) {
		t.Error("there is no body 5")
	}
	want := scene()
	want.Bodies = []api.Body{ball(2, 1, 3), wall(3, 0, -4), wall(9, 8, 8)}
	want.Joints = []api.Joint{joint(4, 9, 3)}
	want.Contacts = []api.Contact{contact(2, 3, 0), contact(2, 3, 7), contact(3, 9, 1)}
	if !equal(w, want) {
		t.Errorf("RemoveBody leads to %+v, want %+v", w, want)
	}
	if world.RemoveBody(&w, 5) || !equal(w, want) {
		t.Error("body 5 has been removed twice")
	}
	for _, id := range []int{3, 9, 2} {
		if !world.RemoveBody(&w, id) {
			t.Errorf("there is no body %d", id)
		}
	}
	empty := api.World{Tick: 7, NextBody: 12, NextJoint: 8, Gravity: whole(1, -10)}
	if !equal(w, empty) || !world.Right(w) {
		t.Errorf("all bodies were removed, and there is %+v", w)
	}
}

func TestRemoveJoint(t *testing.T) {
	w := scene()
	if !world.RemoveJoint(&w, 4) {
		t.Error("there is no joint 4")
	}
	want := scene()
	want.Joints = []api.Joint{joint(1, 2, 5), joint(6, 5, 2)}
	if !equal(w, want) {
		t.Errorf("RemoveJoint leads to %+v, want %+v", w, want)
	}
	if world.RemoveJoint(&w, 4) || !equal(w, want) {
		t.Error("joint 4 has been removed twice")
	}
	if !world.RemoveJoint(&w, 1) || !world.RemoveJoint(&w, 6) || len(w.Joints) != 0 || !equal(w.Contacts, want.Contacts) {
		t.Errorf("all joints were removed, and there is %+v", w)
	}
}

func TestRemoveFromMany(t *testing.T) {
	next := noise()
	for range 100 {
		w := many(next)
		for _, id := range []int{math.MinInt, -1, 0, 1, 2, 3, 7, 8, 14, 15, 16, 20, 21, math.MaxInt} {
			_, there := world.Body(w, id)
			got := world.Copy(w)
			if ok := world.RemoveBody(&got, id); ok != there || !equal(got, withoutBody(w, id)) || !world.Right(got) {
				t.Fatalf("RemoveBody(%+v, %d) returns %v, and leads to %+v", w, id, ok, got)
			}
			_, there = world.Joint(w, id)
			got = world.Copy(w)
			if ok := world.RemoveJoint(&got, id); ok != there || !equal(got, withoutJoint(w, id)) || !world.Right(got) {
				t.Fatalf("RemoveJoint(%+v, %d) returns %v, and leads to %+v", w, id, ok, got)
			}
		}
	}
}

// calls are all that change a world, and the same ones without effect.
func calls() []change[api.World] {
	return []change[api.World]{
		{"AddBody", func(w *api.World) { world.AddBody(w, wall(0, 9, 9)) }},
		{"AddBody of nothing", func(w *api.World) { world.AddBody(w, api.Body{}) }},
		{"AddJoint", func(w *api.World) { world.AddJoint(w, joint(3, 3, 9)) }},
		{"AddJoint of nothing", func(w *api.World) { world.AddJoint(w, api.Joint{}) }},
		{"AddJoint of none", func(w *api.World) { world.AddJoint(w, joint(3, 3, 99)) }},
		{"RemoveBody", func(w *api.World) { world.RemoveBody(w, 3) }},
		{"RemoveBody, the first one", func(w *api.World) { world.RemoveBody(w, 2) }},
		{"RemoveBody, the last one", func(w *api.World) { world.RemoveBody(w, 9) }},
		{"RemoveBody of none", func(w *api.World) { world.RemoveBody(w, 4) }},
		{"RemoveJoint", func(w *api.World) { world.RemoveJoint(w, 4) }},
		{"RemoveJoint, the first one", func(w *api.World) { world.RemoveJoint(w, 1) }},
		{"RemoveJoint, the last one", func(w *api.World) { world.RemoveJoint(w, 6) }},
		{"RemoveJoint of none", func(w *api.World) { world.RemoveJoint(w, 3) }},
	}
}

func TestOldSlicesStay(t *testing.T) {
	for _, start := range []func() api.World{scene, world.New, func() api.World { return crowd(12, 12) }} {
		for _, c := range calls() {
			w, told := roomy(start())
			old, all := w, told()
			c.do(&w)
			if told() != all || !equal(old, start()) {
				t.Errorf("%s modifies slices that the world had", c.name)
			}
			// Two worlds that begin with the same slices have nothing to do with each
			// other later.
			after := fmt.Sprint(w)
			for _, d := range calls() {
				other := old
				d.do(&other)
				if fmt.Sprint(w) != after {
					t.Errorf("%s reaches a world after %s", d.name, c.name)
				}
			}
		}
	}
}

func TestNewSlices(t *testing.T) {
	w := scene()
	old := w
	world.AddBody(&w, wall(0, 9, 9))
	world.AddJoint(&w, joint(0, 3, 9))
	w.Bodies[0].Angle, w.Joints[0].Len = 1, 1
	if !equal(old, scene()) {
		t.Error("a world shares a slice with the one from before AddBody and AddJoint")
	}
	w, old = scene(), scene()
	old.Bodies, old.Joints, old.Contacts = w.Bodies, w.Joints, w.Contacts
	world.RemoveBody(&w, 9)
	w.Bodies[0].Angle, w.Joints[0].Len, w.Contacts[0].N = 1, 1, 1
	if !equal(old, scene()) {
		t.Error("a world shares a slice with the one from before RemoveBody")
	}
	w, old = scene(), scene()
	old.Joints = w.Joints
	world.RemoveJoint(&w, 6)
	w.Joints[0].Len = 1
	if !equal(old, scene()) {
		t.Error("a world shares a slice with the one from before RemoveJoint")
	}
}

func TestArgumentsStay(t *testing.T) {
	for _, start := range []func() api.World{scene, world.New, func() api.World { return crowd(12, 12) }} {
		w, told := roomy(start())
		all := told()
		world.Right(w)
		world.Same(w, w)
		world.Copy(w)
		for id := range 13 {
			world.Body(w, id)
			world.Joint(w, id)
			world.Contact(w, id, id+1, 0)
		}
		if told() != all || !equal(w, start()) {
			t.Error("a call modifies its world")
		}
	}
	b := wall(0, 1, 1)
	w := scene()
	world.RightBody(b)
	world.AddBody(&w, b)
	if !equal(b, wall(0, 1, 1)) {
		t.Error("a call modifies its body")
	}
}

func TestValidForever(t *testing.T) {
	next := noise()
	w := scene()
	wantBody, wantJoint := w.NextBody, w.NextJoint
	body := func() int { return recent(next, w.NextBody) }
	for i := range 3000 {
		before := world.Copy(w)
		switch next(4) {
		case 0:
			wantBody += step(world.AddBody(&w, ball(next(9), next(50), next(50))))
		case 1:
			wantJoint += step(world.AddJoint(&w, joint(next(9), body(), body())))
		case 2:
			id := body()
			world.RemoveBody(&w, id)
			before = withoutBody(before, id)
		case 3:
			id := recent(next, w.NextJoint)
			world.RemoveJoint(&w, id)
			before = withoutJoint(before, id)
		}
		if !world.Right(w) || !valid(w) || w.NextBody != wantBody || w.NextJoint != wantJoint {
			t.Fatalf("call %d makes %+v, from %+v", i, w, before)
		}
		if w.NextBody == before.NextBody && w.NextJoint == before.NextJoint && !world.Same(w, before) {
			t.Fatalf("call %d makes %+v, want %+v", i, w, before)
		}
		if got := world.Copy(w); !world.Right(got) {
			t.Fatalf("the copy of a valid world isn't: %+v", w)
		}
	}
	if wantBody < 600 || wantJoint < 200 {
		t.Errorf("only %d bodies and %d joints were added", wantBody, wantJoint)
	}
}

// recent returns one of the last IDs, or next itself.
func recent(noise func(n int) int, next int) int {
	return max(next-noise(16), 0)
}

// step returns by how much the next ID rises.
func step(_ int, e api.Errno) int {
	if e == api.OK {
		return 1
	}
	return 0
}

// strange returns worlds that aren't valid.
func strange() []api.World {
	l := []api.World{
		{},
		{Tick: math.MinInt, NextBody: math.MinInt, NextJoint: math.MinInt, Gravity: api.V{X: lowest, Y: lowest}},
		{Tick: math.MaxInt, NextBody: math.MaxInt, NextJoint: math.MaxInt, Gravity: api.V{X: api.Most, Y: lowest}},
		{NextBody: 1, NextJoint: 1, Bodies: make([]api.Body, 3000), Joints: make([]api.Joint, 3000), Contacts: make([]api.Contact, 3000)},
		crowd(1025, 1025),
	}
	back := scene()
	slices.Reverse(back.Bodies)
	slices.Reverse(back.Joints)
	slices.Reverse(back.Contacts)
	lost := scene()
	lost.Bodies = nil
	extreme := scene()
	for i := range extreme.Bodies {
		extreme.Bodies[i] = api.Body{ID: math.MinInt, Pos: api.V{X: lowest}, Spin: lowest, Angle: api.Most, Density: lowest,
			Shape: api.Shape{Kind: math.MinInt, R: lowest, P: make([]api.V, 99)}}
	}
	return append(l, back, lost, extreme)
}

func TestStrangeWorlds(t *testing.T) {
	for i, w := range strange() {
		if world.Right(w) {
			t.Errorf("strange world %d is valid", i)
		}
		if !world.Same(w, world.Copy(w)) {
			t.Errorf("the copy of strange world %d isn't the same", i)
		}
		for _, id := range []int{math.MinInt, -1, 0, 1, 2, 5, 2000, math.MaxInt} {
			w := world.Copy(w)
			world.Body(w, id)
			world.Joint(w, id)
			world.Contact(w, id, id, id)
			world.AddBody(&w, api.Body{ID: id, Shape: disc()})
			world.AddJoint(&w, joint(id, 2, 5))
			world.RemoveJoint(&w, id)
			world.RemoveBody(&w, id)
		}
	}
}

func TestNoWorld(t *testing.T) {
	if id, e := world.AddBody(nil, anyBall()); id != 0 || e == api.OK {
		t.Errorf("AddBody to nil returns %d, %v", id, e)
	}
	if id, e := world.AddJoint(nil, anyJoint()); id != 0 || e == api.OK {
		t.Errorf("AddJoint to nil returns %d, %v", id, e)
	}
	if world.RemoveBody(nil, 1) || world.RemoveJoint(nil, 1) {
		t.Error("something has been removed from nil")
	}
}
