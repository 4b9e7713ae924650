package step_test

import (
	"math"
	"slices"
	"testing"

	"bagatelle/api"
	"bagatelle/fix"
	"bagatelle/mass"
	"bagatelle/shape"
	"bagatelle/step"
	"bagatelle/world"
)

// A going is where a body is, and how it moves.
type going struct {
	id       int
	pos, vel api.V
	angle    api.F
	spin     api.F
}

// A stage is some ticks of a world, and what the world is after them.
type stage struct {
	what     string
	batches  [][]api.Order
	moves    []going
	contacts []api.Contact
}

// floor is 16 wide; its upper side is at 0.
func floor() api.Body {
	return api.Body{Pos: whole(0, -1), Shape: shape.Box(8*one, one)}
}

// then returns the batch l and n - 1 ones without orders.
func then(n int, l ...api.Order) [][]api.Order {
	batches := make([][]api.Order, n)
	batches[0] = l
	return batches
}

// checkStages runs a new world through the stages, one after another.
func checkStages(t *testing.T, stages []stage) {
	t.Helper()
	w := world.New()
	for _, s := range stages {
		tick := w.Tick
		got, n := step.Run(w, s.batches...)
		if n != len(s.batches) || got.Tick != tick+n {
			t.Fatalf("%s: Run executes %d batches of %d, up to Tick %d", s.what, n, len(s.batches), got.Tick)
		}
		checkValid(t, s.what, got)
		var moves []going
		for _, b := range got.Bodies {
			if b.Density > 0 {
				moves = append(moves, going{b.ID, b.Pos, b.Vel, b.Angle, b.Spin})
			}
		}
		if !slices.Equal(moves, s.moves) {
			t.Errorf("%s: the bodies are %+v, want %+v", s.what, moves, s.moves)
		}
		if !slices.Equal(got.Contacts, s.contacts) {
			t.Errorf("%s: the contacts are %+v, want %+v", s.what, got.Contacts, s.contacts)
		}
		w = got
	}
}

// A ball slides on a floor and begins to roll, by the contacts of the ticks
// before, too; then it is pushed up. The numbers of this scene and of the
// following ones are computed from the chapters by another program.
func TestSceneOfABall(t *testing.T) {
	b := ball(api.V{Y: one - one/128}, whole(2, 0))
	checkStages(t, []stage{
		{"it slides", then(1, pull(whole(0, -64)), add(floor()), add(b)),
			[]going{{2, api.V{X: 100663296, Y: 4261412864}, api.V{X: 6442450945, Y: -1}, 4284286589, -4294967298}},
			[]api.Contact{{A: 1, B: 2, Key: 18, N: 13493037727, T: 6746518862}}},
		{"it rolls", then(1),
			[]going{{2, api.V{X: 190141781, Y: 4261412864}, api.V{X: 5726623062, Y: 1}, 4270045646, -5726623063}},
			[]api.Contact{{A: 1, B: 2, Key: 18, N: 13493037691, T: 2248839611}}},
		{"it is pushed up", then(1, push(2, whole(0, 9), 0)),
			[]going{{2, api.V{X: 279620266, Y: 4386556733}, api.V{X: 5726623062, Y: 8009207664}, 4255804703, -5726623063}}, nil},
		{"it flies", then(1),
			[]going{{2, api.V{X: 369098751, Y: 4444591738}, api.V{X: 5726623062, Y: 3714240368}, 4241563760, -5726623063}}, nil},
	})
}

func TestSceneOfAPile(t *testing.T) {
	wedge := api.Body{
		Pos: whole(-3, 2), Angle: eighth + 12345, Spin: fix.Of(3), Density: one,
		Shape: api.Shape{Kind: api.Poly, P: []api.V{whole(-1, -1), whole(2, -1), whole(0, 1)}},
	}
	first, second := block(eighths(2, 8), whole(0, 0)), ball(whole(1, 3), whole(0, 0))
	first.Density, second.Density = one, half
	checkStages(t, []stage{
		{"they fall", then(1, pull(whole(0, -10)), add(floor()), add(first), add(second), add(wedge)),
			[]going{
				{2, api.V{X: 1073741824, Y: 4284481536}, api.V{Y: -671088640}, 0, 0},
				{3, api.V{X: 4294967296, Y: 12874416128}, api.V{Y: -671088640}, 0, 0},
				{4, api.V{X: -12884901888, Y: 8579448832}, api.V{Y: -671088640}, 568925379, 12884901888},
			}, nil},
		{"they lie on each other", then(39),
			[]going{
				{2, api.V{X: 1070369429, Y: 4281086843}, api.V{X: 21, Y: 2}, 540642, -7},
				{3, api.V{X: 4294186589, Y: 12852547905}, api.V{X: 2541492, Y: -6}, 4294017269, -2541461},
				{4, api.V{X: -12564630248, Y: 2478610865}, api.V{X: 3086512970, Y: -3396873803}, 1516275415, -5016831120},
			},
			[]api.Contact{
				{A: 1, B: 2, Key: 36, N: 1473632043, T: -298555777}, {A: 1, B: 2, Key: 37, N: 2264866094, T: 298555803},
				{A: 1, B: 4, Key: 36, N: 780003506, T: -169150548}, {A: 2, B: 3, Key: 18, N: 1054143572, T: 4},
			}},
	})
}

func TestSceneOfAPendulum(t *testing.T) {
	pivot := api.Body{Shape: api.Shape{Kind: api.Circle, R: half}}
	checkStages(t, []stage{
		{"it falls", then(1, pull(whole(0, -10)), add(pivot), add(block(whole(3, 0), whole(0, 0))), join(1, 2, whole(0, 0), whole(-1, 0), 2*one)),
			[]going{{2, api.V{X: 12884901888, Y: -10485760}, api.V{Y: -671088640}, 0, 0}}, nil},
		{"it swings", then(49),
			[]going{{2, api.V{X: 7208932031, Y: -10564094864}, api.V{X: -20542858293, Y: -17366392837}, 3771510278, -15937231941}}, nil},
	})
}

// Bodies hit each other, come and go.
func TestSceneOfBodiesThatComeAndGo(t *testing.T) {
	low, late := block(whole(4, -4), whole(0, 2)), block(whole(6, 1), whole(-3, 0))
	low.Density, low.Spin = 2*one, -one
	late.Density, late.Spin = one/4, 2*one
	checkStages(t, []stage{
		{"two are hit", then(21, add(ball(whole(0, 0), whole(8, 0))), add(ball(eighths(32, 4), whole(0, 0))), add(low), join(2, 3, whole(0, 0), whole(0, 1), 3*one)),
			[]going{
				{1, api.V{X: 10156685136, Y: -154644364}, api.V{X: 16478074142, Y: -2474309871}, 41322036, 4154144208},
				{2, api.V{X: 18224078966, Y: 2475626721}, api.V{X: 17563329405, Y: 5767475561}, 41322036, 4154144225},
				{3, api.V{X: 17208691027, Y: -14429429689}, api.V{X: 125009789, Y: 7296711453}, 4042587210, -5040893928},
			}, nil},
		{"one is pushed", then(1, push(1, whole(-9, 4), 5*one), pull(whole(1, -1))),
			[]going{
				{1, api.V{X: 10222950886, Y: -108908373}, api.V{X: 4241008047, Y: 2927103469}, 85650292, 17825449718},
				{2, api.V{X: 18499647899, Y: 2562523910}, api.V{X: 17636411763, Y: 5561420154}, 51652545, 4154144225},
				{3, api.V{X: 17211656228, Y: -14315614584}, api.V{X: 189772868, Y: 7284166768}, 4030134095, -5007694799},
			}, nil},
		{"one comes", then(9, add(late)),
			[]going{
				{1, api.V{X: 10866528556, Y: 255529626}, api.V{X: 4844987823, Y: 2323123693}, 484604596, 17825449718},
				{2, api.V{X: 19648722195, Y: 3061652264}, api.V{X: 8441201070, Y: 3006942083}, 4276550962, -3130707722},
				{3, api.V{X: 17288642093, Y: -13447028464}, api.V{X: 815273758, Y: 6015768543}, 3907607867, -5393221118},
				{4, api.V{X: 28309988850, Y: 5856955870}, api.V{X: 18331973774, Y: 10839038909}, 340688430, 15222105162},
			}, nil},
		{"one goes", then(10, remove(2), cut(7)),
			[]going{
				{1, api.V{X: 11681229576, Y: 560846016}, api.V{X: 5516076463, Y: 1652035053}, 927887156, 17825449718},
				{3, api.V{X: 17473700293, Y: -12564736314}, api.V{X: 1486362398, Y: 5344679903}, 3773489467, -5393221118},
				{4, api.V{X: 31232031430, Y: 7492884010}, api.V{X: 19003062414, Y: 10167950269}, 719231130, 15222105162},
			}, nil},
	})
}

// number returns a as a float.
func number(a api.F) float64 {
	return float64(a) / float64(one)
}

// The document's ninth example.
func TestExampleOfGravity(t *testing.T) {
	w := under(whole(0, -64), of(ball(whole(0, 0), whole(0, 0))))
	got := stepped(t, "a falling body", w).Bodies[0]
	if got.Vel != whole(0, -1) || got.Pos != (api.V{Y: fix.Part(-1, 64)}) {
		t.Errorf("with Gravity -64 a body is %+v after a tick", got)
	}
}

// A tower of blocks comes to rest, each one on the one below it, neither far
// above it nor far in it.
func TestTowerComesToRest(t *testing.T) {
	w, n := step.Run(world.New(), then(1200, pull(whole(0, -10)), add(floor()), add(block(whole(0, 1), whole(0, 0))),
		add(block(eighths(1, 25), whole(0, 0))), add(block(eighths(0, 42), whole(0, 0))))...)
	if n != 1200 || len(w.Bodies) != 4 || len(w.Contacts) != 6 {
		t.Fatalf("after %d ticks the world is %+v", n, w)
	}
	checkValid(t, "a tower", w)
	for i, b := range w.Bodies[1:] {
		height := number(b.Pos.Y) - float64(1+2*i)
		if height > 0.01 || height < -float64(i+1)/32 {
			t.Errorf("block %d is at %f of where it is to lie", i, height)
		}
		if math.Abs(number(b.Vel.X))+math.Abs(number(b.Vel.Y))+math.Abs(number(b.Spin)) > 0.01 {
			t.Errorf("block %d still moves: %+v", i, b)
		}
	}
	for _, c := range w.Contacts {
		if c.N <= 0 || fix.Abs(c.T) > c.N/2 {
			t.Errorf("a contact of the tower is %+v", c)
		}
	}
}

// A pendulum keeps its length, nearly, and comes as high as it was.
func TestPendulumSwings(t *testing.T) {
	w := under(whole(0, -10), of(api.Body{Shape: api.Shape{Kind: api.Circle, R: half}}, ball(whole(3, 0), whole(0, 0))))
	w.Joints, w.NextJoint = []api.Joint{{ID: 1, A: 3, B: 5, Len: 3 * one}}, 2
	left, down := 0.0, 0.0
	for range 256 {
		w = stepped(t, "a pendulum", w)
		x, y := number(w.Bodies[1].Pos.X), number(w.Bodies[1].Pos.Y)
		if length := math.Hypot(x, y); math.Abs(length-3) > 0.2 {
			t.Fatalf("a pendulum of length 3 is %f long", length)
		}
		left, down = min(left, x), min(down, y)
	}
	if left > -2.5 || down > -2.8 {
		t.Errorf("a pendulum of length 3 swings to %f, and down to %f", left, down)
	}
}

// A body that is thrown flies along a parabola.
func TestThrow(t *testing.T) {
	w := under(whole(0, -10), of(ball(whole(0, 0), whole(3, 8))))
	w, _ = step.Run(w, make([][]api.Order, 96)...)
	at := w.Bodies[0].Pos
	if x, y := number(at.X), number(at.Y); math.Abs(x-4.5) > 0.001 || math.Abs(y-(8*1.5-5*1.5*1.5)) > 0.15 {
		t.Errorf("after a unit and a half of time it is at %f, %f", x, y)
	}
}

// momentum returns the sum of all bodies' momenta.
func momentum(w api.World) (x, y float64) {
	for _, b := range w.Bodies {
		m := number(mass.Of(b).M)
		x += m * number(b.Vel.X)
		y += m * number(b.Vel.Y)
	}
	return x, y
}

// Bodies that hit each other keep their momentum together.
func TestMomentum(t *testing.T) {
	w := of(ball(whole(0, 0), whole(9, 0)), block(eighths(33, 5), whole(-2, 1)), ball(eighths(48, -9), whole(-4, 1)), block(eighths(60, 8), whole(-7, -2)))
	x, y := momentum(w)
	hits := 0
	for range 64 {
		w = stepped(t, "bodies that hit each other", w)
		hits += len(w.Contacts)
		if gotX, gotY := momentum(w); math.Abs(gotX-x) > 1e-6 || math.Abs(gotY-y) > 1e-6 {
			t.Fatalf("after %d ticks the momentum is %f, %f, want %f, %f", w.Tick, gotX, gotY, x, y)
		}
	}
	if hits < 3 {
		t.Errorf("there were only %d contacts", hits)
	}
}
