package step_test

import (
	"fmt"
	"math"
	"slices"
	"testing"

	"bagatelle/api"
	"bagatelle/fix"
	"bagatelle/step"
	"bagatelle/world"
)

// busy returns a world with bodies that touch, a joint, and contacts.
func busy() api.World {
	w := of(wall(whole(0, 0)), block(eighths(8, 14), whole(1, -2)), ball(eighths(20, 10), whole(0, 3)), ball(whole(70, 0), whole(0, 0)))
	w.Tick, w.Gravity = 5, whole(1, -10)
	w.Joints, w.NextJoint = []api.Joint{{ID: 2, A: 7, B: 3, At: whole(1, 1), To: whole(0, -1), Len: one}}, 4
	w.Contacts = []api.Contact{{A: 3, B: 5, Key: 36, N: 5 * one, T: one}, {A: 3, B: 9, Key: 1, N: one}}
	return w
}

// orders are some that have an effect on busy.
func orders() []api.Order {
	return []api.Order{add(block(whole(2, 3), whole(-1, 0))), push(5, whole(3, -1), one), remove(9), join(5, 7, whole(0, 0), whole(0, 0), 2*one), pull(whole(0, -20))}
}

func TestRun(t *testing.T) {
	wrong := []api.Order{pull(whole(3, 3)), {Kind: api.RemoveBody}}
	many := slices.Repeat([]api.Order{pull(whole(0, 1))}, 65)
	right := orders()
	other := []api.Order{push(7, whole(0, 9), 0)}
	ending := busy()
	ending.Tick = last - 2
	for _, c := range []struct {
		what    string
		w       api.World
		batches [][]api.Order
		want    int
	}{
		{"no batches", busy(), nil, 0},
		{"no batches, but a slice of them", busy(), [][]api.Order{}, 0},
		{"one without orders", busy(), [][]api.Order{nil}, 1},
		{"one", busy(), [][]api.Order{right}, 1},
		{"three", busy(), [][]api.Order{right, {}, other}, 3},
		{"three, in another order", busy(), [][]api.Order{other, {}, right}, 3},
		{"the same one twice", busy(), [][]api.Order{other, other}, 2},
		{"forty", busy(), make([][]api.Order, 40), 40},
		{"an invalid one", busy(), [][]api.Order{wrong}, 0},
		{"the first one is invalid", busy(), [][]api.Order{wrong, right, other}, 0},
		{"the second one is invalid", busy(), [][]api.Order{right, wrong, other}, 1},
		{"the last one is invalid", busy(), [][]api.Order{right, other, wrong}, 2},
		{"two are invalid", busy(), [][]api.Order{other, wrong, wrong, right}, 1},
		{"one has 65 orders", busy(), [][]api.Order{other, nil, many, right}, 2},
		{"up to the last tick", ending, [][]api.Order{other, nil}, 2},
		{"beyond the last tick", ending, [][]api.Order{other, nil, nil, other}, 2},
		{"a new world", world.New(), [][]api.Order{{add(ball(whole(0, 0), whole(1, 0)))}, {push(1, whole(1, 1), 1)}, {remove(1)}}, 3},
		{"a full world", full(t), [][]api.Order{{add(wall(whole(0, 0)))}, {remove(1)}}, 0},
	} {
		want := world.Copy(c.w)
		for _, l := range c.batches[:c.want] {
			want = stepped(t, c.what, want, l...)
		}
		got, n := step.Run(c.w, c.batches...)
		if n != c.want {
			t.Errorf("%s: Run executes %d batches, want %d", c.what, n, c.want)
		}
		checkSame(t, c.what, got, want)
	}
	// Batches may be passed one by one, too.
	got, n := step.Run(busy(), right, nil, other)
	want, _ := step.Run(busy(), [][]api.Order{right, nil, other}...)
	if n != 3 {
		t.Errorf("Run executes %d batches of 3", n)
	}
	checkSame(t, "one by one", got, want)
}

// roomy returns w with room behind the ends of its slices, and a function that
// tells what lies in them, there too.
func roomy(w api.World) (api.World, func() string) {
	w = world.Copy(w)
	w.Bodies = append(w.Bodies, api.Body{ID: 91}, api.Body{ID: 92})
	w.Joints = append(w.Joints, api.Joint{ID: 93}, api.Joint{ID: 94})
	w.Contacts = append(w.Contacts, api.Contact{A: 95}, api.Contact{A: 96})
	for i, b := range w.Bodies {
		w.Bodies[i].Shape.P = append(b.Shape.P, whole(97, 98), whole(97, 98))[:len(b.Shape.P)]
	}
	all := w
	w.Bodies = w.Bodies[:len(w.Bodies)-2]
	w.Joints = w.Joints[:len(w.Joints)-2]
	w.Contacts = w.Contacts[:len(w.Contacts)-2]
	return w, func() string {
		text := fmt.Sprint(all)
		for _, b := range all.Bodies {
			text += fmt.Sprint(b.Shape.P[:len(b.Shape.P)+2])
		}
		return text
	}
}

// spoil changes each element of the slices of w, and of those of its shapes, and
// adds to them.
func spoil(w api.World) {
	for i := range w.Bodies {
		for k := range w.Bodies[i].Shape.P {
			w.Bodies[i].Shape.P[k] = whole(77, 77)
		}
		_ = append(w.Bodies[i].Shape.P, whole(78, 78))
		w.Bodies[i] = api.Body{ID: 79}
	}
	for i := range w.Joints {
		w.Joints[i] = api.Joint{ID: 80}
	}
	for i := range w.Contacts {
		w.Contacts[i] = api.Contact{A: 81}
	}
	_ = append(w.Bodies, api.Body{ID: 82})
	_ = append(w.Joints, api.Joint{ID: 83})
	_ = append(w.Contacts, api.Contact{A: 84})
}

// Neither the world nor the batches are modified, and what is returned shares no
// memory with them, nor with what another call returns.
func TestMemory(t *testing.T) {
	for _, batches := range [][][]api.Order{nil, {nil}, {orders()}, {orders(), nil, orders()}, {{{Kind: 9}}}, {orders(), {{Kind: 9}}}} {
		w, told := roomy(busy())
		before, given := told(), fmt.Sprint(batches)
		one, _ := step.Run(w, batches...)
		other, _ := step.Run(w, batches...)
		if len(batches) > 0 {
			third, _ := step.Step(w, batches[0])
			spoil(third)
		}
		after := fmt.Sprint(other)
		checkSame(t, given, one, other)
		spoil(one)
		if told() != before || fmt.Sprint(batches) != given {
			t.Errorf("with %s the world or the batches are modified", given)
		}
		if fmt.Sprint(other) != after {
			t.Errorf("with %s two worlds share memory", given)
		}
	}
}

// The shape of an order stays its own, too, and bodies share none.
func TestMemoryOfShapes(t *testing.T) {
	l := []api.Order{add(block(whole(0, 0), whole(0, 0))), add(block(whole(9, 0), whole(0, 0)))}
	l[1].Shape = l[0].Shape
	got, e := step.Step(world.New(), l)
	if e != api.OK {
		t.Fatal(e)
	}
	got.Bodies[0].Shape.P[0] = whole(77, 77)
	if l[0].Shape.P[0] != whole(-1, -1) || got.Bodies[1].Shape.P[0] != whole(-1, -1) {
		t.Errorf("the corners of an order or of another body are modified: %+v %+v", l, got.Bodies)
	}
}

// strangers are worlds that aren't valid.
func strangers() []api.World {
	back := busy()
	slices.Reverse(back.Bodies)
	twice := busy()
	twice.Bodies = append(twice.Bodies, twice.Bodies...)
	nobody := busy()
	nobody.Bodies = nil
	worlds := []api.World{
		{}, back, twice, nobody,
		{Tick: math.MinInt, NextBody: math.MaxInt, NextJoint: math.MinInt, Gravity: api.V{X: lowest, Y: api.Most}, Bodies: []api.Body{{ID: math.MinInt, Spin: lowest, Density: api.Most}}},
		{Tick: math.MaxInt, Bodies: []api.Body{{ID: 1, Vel: api.V{X: lowest, Y: lowest}}}},
	}
	for _, n := range []api.F{lowest, api.Least, -one, -1, 0, 1, api.Far + 1, api.Most} {
		for kind := -1; kind < 4; kind++ {
			b := api.Body{Pos: api.V{X: n, Y: -n}, Vel: api.V{X: n, Y: n}, Angle: n, Spin: n, Density: n, Shape: api.Shape{Kind: kind, R: n, P: []api.V{{X: n}, {Y: n}, {X: n, Y: n}}[:(kind+1)%4]}}
			w := of(b, block(b.Pos, b.Vel), b, wall(whole(0, 0)), turned(ball(whole(0, 0), b.Vel), n))
			w.Gravity = b.Vel
			w.Joints = []api.Joint{{ID: 1, A: 3, B: 5, At: b.Pos, To: b.Vel, Len: n}, {ID: 1, A: int(n), B: 99, Len: n}, {A: 3, B: 3}}
			w.Contacts = []api.Contact{{A: 5, B: 3, N: n, T: n}, {A: 3, B: 5, Key: 32, N: n, T: n}, {A: int(n), B: int(n), Key: int(n)}}
			worlds = append(worlds, w)
		}
	}
	return worlds
}

// TestAnyArguments is for P0: no call may panic, whatever it is given.
func TestAnyArguments(t *testing.T) {
	for _, w := range strangers() {
		for _, l := range [][]api.Order{nil, orders(), {{Kind: math.MinInt}}, make([]api.Order, 1000)} {
			step.Pairs(w)
			step.Step(w, l)
			step.Run(w, l, nil, l)
		}
	}
}

// Many bodies in one place.
func TestCrowd(t *testing.T) {
	w := world.New()
	for i := range 64 {
		if _, e := world.AddBody(&w, turned(block(whole(0, 0), whole(i%3, 0)), api.F(i)*one/64)); e != api.OK {
			t.Fatal(e)
		}
	}
	if got := step.Pairs(w); len(got) != 64*63/2 || got[0] != [2]int{1, 2} || got[len(got)-1] != [2]int{63, 64} {
		t.Errorf("%d pairs of 64 bodies", len(got))
	}
	w = stepped(t, "a crowd", w)
	if len(w.Contacts) < 500 {
		t.Errorf("64 bodies in one place have %d contacts", len(w.Contacts))
	}
	for range 2 {
		w = stepped(t, "a crowd", w, push(1, whole(1<<20, 0), fix.Of(1<<20)))
	}
}
