package step_test

import (
	"fmt"
	"slices"
	"testing"

	"bagatelle/api"
	"bagatelle/box"
	"bagatelle/fix"
	"bagatelle/order"
	"bagatelle/shape"
	"bagatelle/solve"
	"bagatelle/step"
	"bagatelle/vec"
	"bagatelle/world"
)

// noise returns a function that returns numbers from 0 up to below n, always
// the same.
func noise() func(n int) int {
	state := uint64(88172645463325252)
	return func(n int) int {
		state ^= state << 13
		state ^= state >> 7
		state ^= state << 17
		return int(state>>1) % n
	}
}

// pick returns one of l.
func pick[T any](next func(n int) int, l ...T) T {
	return l[next(len(l))]
}

// upTo returns a number from -limit to limit.
func upTo(next func(n int) int, limit api.F) api.F {
	return api.F(next(int(limit)+1)) * api.F(2*next(2)-1)
}

func anyV(next func(n int) int, limit api.F) api.V {
	return api.V{X: upTo(next, limit), Y: upTo(next, limit)}
}

func anyShape(next func(n int) int) api.Shape {
	return pick(next,
		disc(), square(), shape.Box(3*one, half), api.Shape{Kind: api.Circle, R: 2*one + api.F(next(int(one)))},
		api.Shape{Kind: api.Circle, R: shape.Small},
		api.Shape{Kind: api.Poly, P: []api.V{whole(0, 0), whole(4, 1), whole(1, 3)}},
		api.Shape{Kind: api.Poly, P: []api.V{whole(-2, -1), whole(0, -2), whole(2, -1), whole(2, 1), whole(0, 2), whole(-2, 1)}},
	)
}

// anyBody returns a valid body near a place. Some are as light, as heavy, as
// fast or as static as a body may be.
func anyBody(next func(n int) int, near api.V) api.Body {
	at := vec.Bring(vec.Add(near, anyV(next, 5*one)), api.Far)
	b := api.Body{Pos: at, Angle: api.F(next(int(one))), Shape: anyShape(next)}
	if next(5) > 0 {
		b.Density = pick(next, 1, half, one, one, one+api.F(next(int(4*one))), world.Heavy)
		b.Vel = anyV(next, pick(next, 1, 8*one, 8*one, 8*one, api.Fast))
		b.Spin = upTo(next, pick(next, 1, 4*one, 4*one, 4*one, api.Whirl))
	}
	return b
}

// anyOrder returns a valid order, most often for bodies and joints that exist.
func anyOrder(next func(n int) int, w api.World, near api.V) api.Order {
	body := func() int { return 1 + next(w.NextBody+1) }
	switch next(9) {
	case 0, 1, 2:
		return add(anyBody(next, near))
	case 3, 4:
		o := join(body(), body(), anyV(next, 3*one), anyV(next, 3*one), api.F(next(int(6*one))))
		if o.A == o.B {
			o.B++
		}
		return o
	case 5:
		return push(body(), anyV(next, pick(next, one, 20*one, order.Great-1)), upTo(next, pick(next, one, order.Great-1)))
	case 6:
		return pull(anyV(next, pick(next, 1, 10*one, 64*one, api.Fast)))
	case 7:
		return remove(body())
	}
	return cut(1 + next(w.NextJoint+1))
}

// The following functions are the chapter's words.

func toldPairs(w api.World) [][2]int {
	var l [][2]int
	for i, a := range w.Bodies {
		for _, b := range w.Bodies[i+1:] {
			if box.Meet(box.Of(a), box.Of(b)) && (a.Density > 0 || b.Density > 0) {
				l = append(l, [2]int{a.ID, b.ID})
			}
		}
	}
	return l
}

// sum returns a + b, from -limit to limit.
func sum(a, b, limit api.F) api.F {
	return min(max(a+b, -limit), limit)
}

// toldStep returns the world after a tick of w with acceptable orders. What is
// divided by 64 here is multiplied by a 64th in the chapter.
func toldStep(w api.World, l []api.Order) api.World {
	w = world.Copy(w)
	for _, o := range l {
		order.Do(&w, o)
	}
	w = world.Copy(w)
	for i, b := range w.Bodies {
		if b.Density > 0 {
			w.Bodies[i].Vel = api.V{X: sum(b.Vel.X, w.Gravity.X/64, api.Fast), Y: sum(b.Vel.Y, w.Gravity.Y/64, api.Fast)}
		}
	}
	rows := solve.Rows(w, toldPairs(w))
	ties := solve.Ties(w)
	w.Bodies = solve.Solve(w.Bodies, rows, ties)
	for i, b := range w.Bodies {
		if b.Density > 0 {
			w.Bodies[i].Pos = api.V{X: sum(b.Pos.X, b.Vel.X/64, api.Far), Y: sum(b.Pos.Y, b.Vel.Y/64, api.Far)}
			angle := (b.Angle + fix.Mul(b.Spin, api.InvTau)/64) % one
			if angle < 0 {
				angle += one
			}
			w.Bodies[i].Angle = angle
		}
	}
	w.Contacts = solve.Contacts(w, rows)
	w.Tick++
	return w
}

// A tally counts what the worlds had.
type tally struct {
	orders, contacts, joints, static, moved, ends int
}

func (c *tally) count(before, after api.World, l []api.Order) {
	c.orders += len(l)
	c.contacts += len(after.Contacts)
	c.joints += len(after.Joints)
	for _, b := range after.Bodies {
		i, ok := world.Body(before, b.ID)
		switch {
		case b.Density == 0:
			c.static++
		case ok && before.Bodies[i].Pos != b.Pos:
			c.moved++
		}
		if max(fix.Abs(b.Pos.X), fix.Abs(b.Pos.Y)) == api.Far || max(fix.Abs(b.Vel.X), fix.Abs(b.Vel.Y)) == api.Fast || fix.Abs(b.Spin) == api.Whirl {
			c.ends++
		}
	}
}

// checkTick returns the world after a tick of w with l, held against the
// chapter's words.
func checkTick(t *testing.T, w api.World, l []api.Order) api.World {
	t.Helper()
	before, given := fmt.Sprint(w), fmt.Sprint(l)
	if got, want := step.Pairs(w), toldPairs(w); !slices.Equal(got, want) {
		t.Fatalf("Pairs of %s returns %v, want %v", before, got, want)
	}
	want := toldStep(w, l)
	got, e := step.Step(w, l)
	if e != api.OK || !world.Same(got, want) {
		t.Fatalf("Step of %s with %s returns %+v, %d, want %+v", before, given, got, e, want)
	}
	if fmt.Sprint(w) != before || fmt.Sprint(l) != given {
		t.Fatalf("Step modifies %s or %s", before, given)
	}
	checkValid(t, "after a tick", got)
	return got
}

// anyWorld returns a valid world with bodies near a place.
func anyWorld(t *testing.T, next func(n int) int, near api.V) api.World {
	t.Helper()
	w := world.New()
	w.Tick = next(3)
	for range 2 + next(8) {
		if _, e := world.AddBody(&w, anyBody(next, near)); e != api.OK {
			t.Fatal(e)
		}
	}
	for range next(5) {
		order.Do(&w, anyOrder(next, w, near))
	}
	w.Gravity = anyV(next, pick(next, 1, 10*one, 64*one))
	checkValid(t, "any world", w)
	return w
}

// P12.1 and P12.2 for many worlds, at 0, 0, at any place, and at a corner of all
// there is.
func TestManyWorlds(t *testing.T) {
	next := noise()
	var c tally
	for i := range 400 {
		near := [...]api.V{{}, {}, anyV(next, api.Far), {X: api.Far, Y: -api.Far}}[i%4]
		w := anyWorld(t, next, near)
		for range 12 {
			var l []api.Order
			for range next(5) * next(2) {
				l = append(l, anyOrder(next, w, near))
			}
			got := checkTick(t, w, l)
			c.count(w, got, l)
			w = got
		}
	}
	if least := min(c.orders, c.contacts, c.joints, c.static, c.moved, c.ends); least < 3000 {
		t.Errorf("only so many of each: %+v", c)
	}
}

// Run is a Step for each batch, up to the first one that isn't acceptable.
func TestManyRuns(t *testing.T) {
	next := noise()
	for range 300 {
		w := anyWorld(t, next, api.V{})
		want, n, ended := w, 0, false
		var batches [][]api.Order
		for range next(9) {
			var l []api.Order
			for range next(4) {
				l = append(l, anyOrder(next, w, api.V{}))
			}
			if next(8) == 0 {
				l = append(l, api.Order{Kind: 7})
				ended = true
			}
			batches = append(batches, l)
			if !ended {
				want = toldStep(want, l)
				n++
			}
		}
		got, gotN := step.Run(w, batches...)
		if gotN != n || !world.Same(got, want) {
			t.Fatalf("Run of %+v with %+v returns %+v, %d, want %+v, %d", w, batches, got, gotN, want, n)
		}
	}
}

// along returns w with all bodies moved by v.
func along(w api.World, v api.V) api.World {
	w = world.Copy(w)
	for i, b := range w.Bodies {
		w.Bodies[i].Pos = vec.Add(b.Pos, v)
	}
	return w
}

// Worlds that are moved as a whole go the same way, moved (P4).
func TestMovedWorlds(t *testing.T) {
	next := noise()
	for range 120 {
		w := anyWorld(t, next, api.V{})
		v := anyV(next, pick(next, 1, 100*one, api.Far-1<<46))
		other := along(w, v)
		for range 12 {
			w, other = stepped(t, "a world", w), stepped(t, "a moved world", other)
			checkSame(t, "a moved world", other, along(w, v))
		}
	}
}
