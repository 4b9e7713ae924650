package solve_test

import (
	"fmt"
	"math"
	"slices"
	"testing"

	"bagatelle/api"
	"bagatelle/fix"
	"bagatelle/mass"
	"bagatelle/shape"
	"bagatelle/solve"
	"bagatelle/touch"
	"bagatelle/turn"
	"bagatelle/vec"
	"bagatelle/world"
)

// noise returns a function that returns numbers from 0 up to below n, always
// the same.
func noise() func(n int) int {
	state := uint64(88172645463325252)
	return func(n int) int {
		state ^= state << 13
		state ^= state >> 7
		state ^= state << 17
		return int(state>>1) % n
	}
}

// upTo returns a number from -limit to limit.
func upTo(next func(n int) int, limit api.F) api.F {
	return api.F(next(int(limit)+1)) * api.F(2*next(2)-1)
}

func anyV(next func(n int) int, limit api.F) api.V {
	return api.V{X: upTo(next, limit), Y: upTo(next, limit)}
}

// pick returns one of l.
func pick[T any](next func(n int) int, l ...T) T {
	return l[next(len(l))]
}

func anyShape(next func(n int) int) api.Shape {
	return pick(next,
		disc(), square(), shape.Box(3*one, half), api.Shape{Kind: api.Circle, R: shape.Small}, api.Shape{Kind: api.Circle, R: 2*one + api.F(next(int(one)))},
		api.Shape{Kind: api.Poly, P: []api.V{whole(0, 0), whole(4, 1), whole(1, 3)}},
		api.Shape{Kind: api.Poly, P: []api.V{whole(-2, -1), whole(0, -2), whole(2, -1), whole(2, 1), whole(0, 2), whole(-2, 1)}},
	)
}

// anyBody returns a valid body near 0, 0. Some are as light, as heavy, as fast
// or as static as a body may be.
func anyBody(next func(n int) int) api.Body {
	b := api.Body{Pos: anyV(next, 4*one), Angle: api.F(next(int(one))), Shape: anyShape(next)}
	if next(5) > 0 {
		b.Density = pick(next, 1, half, one, one+api.F(next(int(4*one))), one+api.F(next(int(4*one))), world.Heavy)
		b.Vel = anyV(next, pick(next, 1, 8*one, 8*one, 8*one, api.Fast))
		b.Spin = upTo(next, pick(next, 1, 4*one, 4*one, 4*one, api.Whirl))
	}
	return b
}

// anyWorld returns a valid world of two or more bodies that touch, with joints
// and contacts, some of them of rows and some of none.
func anyWorld(t *testing.T, next func(n int) int) api.World {
	t.Helper()
	w := world.New()
	for range 3 + next(8) {
		if _, e := world.AddBody(&w, anyBody(next)); e != api.OK {
			t.Fatal(e)
		}
	}
	world.RemoveBody(&w, 1+next(w.NextBody-1))
	for range next(5) {
		world.AddJoint(&w, api.Joint{A: 1 + next(w.NextBody-1), B: 1 + next(w.NextBody-1), At: anyV(next, 3*one), To: anyV(next, 3*one), Len: api.F(next(int(6 * one)))})
	}
	for _, r := range solve.Rows(w, pairsOf(w)) {
		c := api.Contact{A: w.Bodies[r.A].ID, B: w.Bodies[r.B].ID, Key: r.Key}
		if next(4) == 0 {
			c.Key += 1 + next(2)
		}
		c.N, c.T = api.F(next(int(pick(next, 1, 8*one, 8*one, api.Most)))), upTo(next, pick(next, 1, 4*one, api.Most-1))
		if _, ok := world.Contact(w, c.A, c.B, c.Key); !ok && next(3) > 0 {
			w.Contacts = append(w.Contacts, c)
			slices.SortFunc(w.Contacts, func(a, b api.Contact) int { return slices.Compare([]int{a.A, a.B, a.Key}, []int{b.A, b.B, b.Key}) })
		}
	}
	checkValid(t, "any world", w)
	return w
}

// pairsOf returns all pairs of bodies, in ascending order.
func pairsOf(w api.World) [][2]int {
	var l [][2]int
	for i, a := range w.Bodies {
		for _, b := range w.Bodies[i+1:] {
			l = append(l, [2]int{a.ID, b.ID})
		}
	}
	return l
}

// The following functions are the chapter's words.

func toldCompliance(a, b mass.Mass, ra, rb, n api.V) api.F {
	ca, cb := vec.Cross(ra, n), vec.Cross(rb, n)
	return fix.Sum(a.Move, b.Move, fix.Mul(a.Spin, fix.Mul(ca, ca)), fix.Mul(b.Spin, fix.Mul(cb, cb)))
}

func toldEffective(a, b api.Body, ra, rb, n api.V) api.F {
	if c := toldCompliance(mass.Of(a), mass.Of(b), ra, rb, n); c > 0 {
		return fix.Div(one, c)
	}
	return 0
}

func toldRows(w api.World, pairs [][2]int) []solve.Row {
	var l []solve.Row
	for _, pair := range pairs {
		i := slices.IndexFunc(w.Bodies, func(b api.Body) bool { return b.ID == pair[0] })
		k := slices.IndexFunc(w.Bodies, func(b api.Body) bool { return b.ID == pair[1] })
		a, b := w.Bodies[i], w.Bodies[k]
		x, ok := touch.Of(a, b)
		if !ok {
			continue
		}
		for _, p := range x.Points {
			r := solve.Row{A: i, B: k, Key: p.Key, Normal: x.Normal, RA: vec.Sub(p.At, a.Pos), RB: vec.Sub(p.At, b.Pos)}
			r.GN = toldEffective(a, b, r.RA, r.RB, x.Normal)
			r.GT = toldEffective(a, b, r.RA, r.RB, api.V{X: fix.Neg(x.Normal.Y), Y: x.Normal.X})
			if p.Depth > slop {
				r.Out = fix.Mul(fix.Part(64, 5), p.Depth-slop)
			}
			r.Out = min(r.Out, fix.Of(4))
			for _, c := range w.Contacts {
				if c.A == pair[0] && c.B == pair[1] && c.Key == p.Key {
					r.N, r.T = c.N, c.T
				}
			}
			l = append(l, r)
		}
	}
	return l
}

func toldTies(w api.World) []solve.Tie {
	var l []solve.Tie
	for _, j := range w.Joints {
		i := slices.IndexFunc(w.Bodies, func(b api.Body) bool { return b.ID == j.A })
		k := slices.IndexFunc(w.Bodies, func(b api.Body) bool { return b.ID == j.B })
		a, b := w.Bodies[i], w.Bodies[k]
		ra, rb := vec.Apply(turn.Of(a.Angle), j.At), vec.Apply(turn.Of(b.Angle), j.To)
		d := api.V{X: b.Pos.X + rb.X - a.Pos.X - ra.X, Y: b.Pos.Y + rb.Y - a.Pos.Y - ra.Y}
		n := whole(1, 0)
		if vec.Len(d) > 0 {
			n, _ = vec.Unit(d)
		}
		off := fix.Mul(fix.Part(64, 5), vec.Len(d)-j.Len)
		l = append(l, solve.Tie{A: i, B: k, Normal: n, RA: ra, RB: rb, G: toldEffective(a, b, ra, rb, n), Off: min(max(off, fix.Of(-4)), fix.Of(4))})
	}
	return l
}

// toldApply returns a and b after the impulse p.
func toldApply(a, b api.Body, ra, rb, p api.V) (api.Body, api.Body) {
	am, bm := mass.Of(a), mass.Of(b)
	a.Vel = vec.Sub(a.Vel, vec.Scale(p, am.Move))
	a.Spin = fix.Sub(a.Spin, fix.Mul(am.Spin, vec.Cross(ra, p)))
	b.Vel = vec.Add(b.Vel, vec.Scale(p, bm.Move))
	b.Spin = fix.Add(b.Spin, fix.Mul(bm.Spin, vec.Cross(rb, p)))
	return a, b
}

func toldRelative(a, b api.Body, ra, rb api.V) api.V {
	return vec.Sub(vec.Add(b.Vel, vec.Spun(b.Spin, rb)), vec.Add(a.Vel, vec.Spun(a.Spin, ra)))
}

// toldSolve returns the bodies and the rows.
func toldSolve(bodies []api.Body, rows []solve.Row, ties []solve.Tie) ([]api.Body, []solve.Row) {
	l, rows := slices.Clone(bodies), slices.Clone(rows)
	for _, r := range rows {
		p := vec.Add(vec.Scale(r.Normal, r.N), vec.Scale(vec.Left(r.Normal), r.T))
		l[r.A], l[r.B] = toldApply(l[r.A], l[r.B], r.RA, r.RB, p)
	}
	for range 8 {
		for _, tie := range ties {
			v := vec.Dot(toldRelative(l[tie.A], l[tie.B], tie.RA, tie.RB), tie.Normal)
			p := vec.Scale(tie.Normal, fix.Neg(fix.Mul(tie.G, fix.Add(v, tie.Off))))
			l[tie.A], l[tie.B] = toldApply(l[tie.A], l[tie.B], tie.RA, tie.RB, p)
		}
		for i, r := range rows {
			t := vec.Left(r.Normal)
			across := fix.Add(r.T, fix.Neg(fix.Mul(r.GT, vec.Dot(toldRelative(l[r.A], l[r.B], r.RA, r.RB), t))))
			most := fix.Mul(r.N, half)
			rows[i].T = min(max(across, -most), most)
			l[r.A], l[r.B] = toldApply(l[r.A], l[r.B], r.RA, r.RB, vec.Scale(t, fix.Sub(rows[i].T, r.T)))
			ahead := vec.Dot(toldRelative(l[r.A], l[r.B], r.RA, r.RB), r.Normal)
			rows[i].N = max(0, fix.Add(r.N, fix.Mul(r.GN, fix.Sub(r.Out, ahead))))
			l[r.A], l[r.B] = toldApply(l[r.A], l[r.B], r.RA, r.RB, vec.Scale(r.Normal, fix.Sub(rows[i].N, r.N)))
		}
	}
	for i := range l {
		l[i].Vel = api.V{X: min(max(l[i].Vel.X, -api.Fast), api.Fast), Y: min(max(l[i].Vel.Y, -api.Fast), api.Fast)}
		l[i].Spin = min(max(l[i].Spin, -api.Whirl), api.Whirl)
	}
	return l, rows
}

func toldContacts(w api.World, rows []solve.Row) []api.Contact {
	var l []api.Contact
	for _, r := range rows {
		if r.N != 0 || r.T != 0 {
			l = append(l, api.Contact{A: w.Bodies[r.A].ID, B: w.Bodies[r.B].ID, Key: r.Key, N: r.N, T: r.T})
		}
	}
	return l
}

// checkStill checks that static bodies are as they were, and that no N is
// negative.
func checkStill(t *testing.T, before, after []api.Body, rows []solve.Row) {
	t.Helper()
	for i, b := range before {
		if b.Density == 0 && !sameBodies([]api.Body{b}, after[i:i+1]) {
			t.Fatalf("a static body is moved from %+v to %+v", b, after[i])
		}
	}
	for _, r := range rows {
		if r.N < 0 {
			t.Fatalf("N is negative: %+v", r)
		}
	}
}

// solved returns w after a tick without gravity, or nearly so. All calls are
// held against the chapter's words on the way. It counts the rows and the ties.
func solved(t *testing.T, w api.World, counts []int) api.World {
	t.Helper()
	pairs := pairsOf(w)
	rows, ties := solve.Rows(w, pairs), solve.Ties(w)
	if want := toldRows(w, pairs); !slices.Equal(rows, want) {
		t.Fatalf("Rows of %+v returns %+v, want %+v", w, rows, want)
	}
	if want := toldTies(w); !slices.Equal(ties, want) {
		t.Fatalf("Ties of %+v returns %+v, want %+v", w, ties, want)
	}
	want, wantRows := toldSolve(w.Bodies, rows, ties)
	told := fmt.Sprint(w, ties)
	got := solve.Solve(w.Bodies, rows, ties)
	if !sameBodies(got, want) || !slices.Equal(rows, wantRows) {
		t.Fatalf("Solve of %+v returns %+v and %+v, want %+v and %+v", w, got, rows, want, wantRows)
	}
	if fmt.Sprint(w, ties) != told {
		t.Fatalf("Solve modifies %s to %+v %+v", told, w, ties)
	}
	checkStill(t, w.Bodies, got, rows)
	contacts := solve.Contacts(w, rows)
	if want := toldContacts(w, rows); !slices.Equal(contacts, want) {
		t.Fatalf("Contacts of %+v returns %+v, want %+v", rows, contacts, want)
	}
	counts[0] += len(rows)
	counts[1] += len(ties)
	counts[2] += len(contacts)
	w.Bodies, w.Contacts = got, contacts
	for i, b := range w.Bodies {
		w.Bodies[i].Pos = vec.Bring(vec.Add(b.Pos, vec.Scale(b.Vel, api.Dt)), api.Far)
	}
	return w
}

// The chapter's words for many worlds, each one for some ticks, so that rows
// have the N and T of the ones before.
func TestManyWorlds(t *testing.T) {
	next, counts := noise(), make([]int, 3)
	for range 500 {
		w := anyWorld(t, next)
		for range 4 {
			w = solved(t, w, counts)
			checkValid(t, "after a tick", w)
		}
	}
	if slices.Min(counts) < 2000 {
		t.Errorf("only so many rows, ties and contacts: %v", counts)
	}
}

// Pairs in any order, and some of them twice.
func TestManyPairs(t *testing.T) {
	next := noise()
	for range 200 {
		w := anyWorld(t, next)
		all := pairsOf(w)
		var pairs [][2]int
		for range next(12) {
			pairs = append(pairs, pick(next, all...))
		}
		if got, want := solve.Rows(w, pairs), toldRows(w, pairs); !slices.Equal(got, want) {
			t.Fatalf("Rows of %+v with %v returns %+v, want %+v", w, pairs, got, want)
		}
	}
}

// Rows and ties of any two bodies and any numbers, as long as N isn't negative.
func TestSolveOfManyRows(t *testing.T) {
	next := noise()
	number := func() api.F { return upTo(next, pick(next, 1, one, 8*one, api.Far, api.Most-1)) }
	vector := func() api.V { return api.V{X: number(), Y: number()} }
	for n := range 2000 {
		w := anyWorld(t, next)
		indices := func() (int, int) {
			a := next(len(w.Bodies))
			return a, (a + 1 + next(len(w.Bodies)-1)) % len(w.Bodies)
		}
		var rows []solve.Row
		var ties []solve.Tie
		for range next(6) {
			r := solve.Row{Key: next(99), Normal: vector(), RA: vector(), RB: vector(), GN: number(), GT: number(), Out: number(), N: fix.Abs(number()), T: number()}
			r.A, r.B = indices()
			rows = append(rows, r)
		}
		for range next(4) {
			tie := solve.Tie{Normal: vector(), RA: vector(), RB: vector(), G: number(), Off: number()}
			tie.A, tie.B = indices()
			ties = append(ties, tie)
		}
		want, wantRows := toldSolve(w.Bodies, rows, ties)
		got := solve.Solve(w.Bodies, rows, ties)
		if !sameBodies(got, want) || !slices.Equal(rows, wantRows) {
			t.Fatalf("case %d: Solve returns %+v and %+v, want %+v and %+v", n, got, rows, want, wantRows)
		}
		checkStill(t, w.Bodies, got, rows)
	}
}

// number returns a as a float.
func number(a api.F) float64 {
	return float64(a) / float64(one)
}

// momentum returns the sum of all bodies' momenta.
func momentum(bodies []api.Body) (x, y float64) {
	for _, b := range bodies {
		m := number(mass.Of(b).M)
		x += m * number(b.Vel.X)
		y += m * number(b.Vel.Y)
	}
	return x, y
}

func checkMomentum(t *testing.T, before, after []api.Body) {
	t.Helper()
	x, y := momentum(before)
	gotX, gotY := momentum(after)
	if math.Abs(gotX-x) > 1e-6 || math.Abs(gotY-y) > 1e-6 {
		t.Errorf("the momentum of %+v becomes %f, %f, want %f, %f", before, gotX, gotY, x, y)
	}
}

// Two bodies that touch at one point part with Out then, or faster, and are
// pushed no more than that takes.
func TestBodiesPart(t *testing.T) {
	next, pushed := noise(), 0
	for range 500 {
		a, b := ball(anyV(next, 4*one), upTo(next, one)), block(anyV(next, 4*one), upTo(next, one))
		w := of(placed(a, anyV(next, one), 0), placed(b, anyV(next, one), api.F(next(int(one)))))
		rows := solve.Rows(w, [][2]int{{3, 5}})
		if len(rows) != 1 {
			continue
		}
		got := solve.Solve(w.Bodies, rows, nil)
		checkMomentum(t, w.Bodies, got)
		r := rows[0]
		speed := number(vec.Dot(toldRelative(got[0], got[1], r.RA, r.RB), r.Normal))
		slower := speed < number(r.Out)-1e-6
		faster := r.N > 0 && speed > number(r.Out)+1e-6
		// T is held against an N that may have been a little greater.
		if slower || faster || number(r.N) < 2*math.Abs(number(r.T))-1e-3 {
			t.Errorf("%+v part with %f, and the row %+v", got, speed, r)
		}
		if r.N > 0 {
			pushed++
		}
	}
	if pushed < 100 {
		t.Errorf("only %d bodies were pushed", pushed)
	}
}

// Two bodies of one joint come to its length with Off.
func TestBodiesAreHeld(t *testing.T) {
	next := noise()
	for range 500 {
		a, b := ball(anyV(next, 4*one), upTo(next, one)), block(anyV(next, 4*one), upTo(next, one))
		w := held(of(placed(a, anyV(next, 4*one), api.F(next(int(one)))), placed(b, anyV(next, 4*one), api.F(next(int(one))))),
			[]api.Joint{{A: 3 + 2*next(2), At: anyV(next, 2*one), To: anyV(next, 2*one), Len: api.F(next(int(4 * one)))}})
		w.Joints[0].B = 8 - w.Joints[0].A
		ties := solve.Ties(w)
		got := solve.Solve(w.Bodies, nil, ties)
		checkMomentum(t, w.Bodies, got)
		tie := ties[0]
		if speed := number(vec.Dot(toldRelative(got[tie.A], got[tie.B], tie.RA, tie.RB), tie.Normal)); math.Abs(speed+number(tie.Off)) > 1e-6 {
			t.Errorf("%+v move with %f from each other, want %f", got, speed, -number(tie.Off))
		}
	}
}

// As many bodies and joints as there may be.
func TestFullWorld(t *testing.T) {
	next, w := noise(), world.New()
	var pairs [][2]int
	for i := range api.MaxBodies {
		b := block(whole(i%3-1, i%5-2), upTo(next, one))
		if i%7 == 0 {
			b = wall(whole(0, 0))
		}
		world.AddBody(&w, placed(b, eighths(15*(i%32), 15*(i/32)), 0))
		if i > 0 {
			pairs = append(pairs, [2]int{i, i + 1})
		}
		world.AddJoint(&w, api.Joint{A: max(i, 1), B: 1 + (i+9)%(i+1), Len: 2 * one})
	}
	for len(w.Joints) < api.MaxJoints {
		world.AddJoint(&w, api.Joint{A: 1 + len(w.Joints), B: 1024 - len(w.Joints), Len: one})
	}
	checkValid(t, "a full world", w)
	rows, ties := solve.Rows(w, pairs), solve.Ties(w)
	if len(rows) < 1024 || len(ties) != 1024 {
		t.Fatalf("%d rows and %d ties", len(rows), len(ties))
	}
	want, wantRows := toldSolve(w.Bodies, rows, ties)
	if got := solve.Solve(w.Bodies, rows, ties); !sameBodies(got, want) || !slices.Equal(rows, wantRows) {
		t.Error("Solve of a full world isn't what the chapter says")
	}
}

// strangeWorlds returns worlds that aren't valid.
func strangeWorlds() []api.World {
	wild := api.Body{ID: math.MinInt, Pos: api.V{X: lowest, Y: api.Most}, Vel: api.V{X: lowest, Y: lowest}, Angle: lowest, Spin: lowest, Density: api.Most, Shape: api.Shape{Kind: 9, R: lowest}}
	tight := wild
	tight.ID, tight.Density, tight.Shape = math.MaxInt, lowest, shape.Box(api.Most, lowest)
	back := of(ball(whole(0, 0), 0), block(whole(0, 0), 0), wall(whole(0, 0)))
	slices.Reverse(back.Bodies)
	lost := held(of(ball(whole(0, 0), 0), block(whole(0, 0), 0)), []api.Joint{
		{A: 3, B: 4}, {A: 4, B: 3}, {A: 3, B: 3}, {}, {A: math.MinInt, B: math.MaxInt}, {A: 3, B: 5, At: api.V{X: lowest, Y: api.Most}, To: api.V{X: lowest, Y: lowest}, Len: lowest},
	}, api.Contact{A: 3, B: 5, N: lowest, T: lowest}, api.Contact{A: 3, B: 3, N: -5}, api.Contact{A: 9, B: 9})
	return []api.World{{}, back, lost, {Bodies: []api.Body{wild, tight}}, {Bodies: []api.Body{tight, wild, tight}}, {Bodies: make([]api.Body, 4), Joints: make([]api.Joint, 3), Contacts: make([]api.Contact, 3)}}
}

// TestAnyArguments is for P0: no call may panic, whatever it is given.
func TestAnyArguments(t *testing.T) {
	ints := []int{math.MinInt, -1, 0, 1, 2, 3, 4, 5, 7, math.MaxInt}
	ends := []api.F{lowest, api.Least, -1, 0, 1, one, api.Most}
	var pairs [][2]int
	var rows []solve.Row
	var ties []solve.Tie
	for i, a := range ints {
		for k, b := range ints {
			pairs = append(pairs, [2]int{a, b})
			one, other := ends[i%len(ends)], ends[k%len(ends)]
			v, u := api.V{X: one, Y: other}, api.V{X: other, Y: one}
			rows = append(rows, solve.Row{A: a, B: b, Key: a, Normal: v, RA: u, RB: v, GN: one, GT: other, Out: one, N: other, T: one})
			ties = append(ties, solve.Tie{A: a, B: b, Normal: u, RA: v, RB: u, G: other, Off: one})
		}
	}
	w, _ := onWall()
	for _, w := range append(strangeWorlds(), w, world.New()) {
		l := append(solve.Rows(w, pairs), rows...)
		bodies := solve.Solve(w.Bodies, l, append(solve.Ties(w), ties...))
		if len(bodies) != len(w.Bodies) {
			t.Errorf("Solve of %d bodies returns %d", len(w.Bodies), len(bodies))
		}
		solve.Contacts(w, l)
	}
}

// What isn't there isn't pushed: rows and ties of other indices, pairs and
// joints of other IDs.
func TestOthersAreLeftOut(t *testing.T) {
	w, want := onWall()
	checkRows(t, "pairs of other IDs", w, [][2]int{{5, 6}, {4, 7}, {5, 7}, {-1, 5}, {7, 9}}, want...)
	near := of(ball(whole(0, 0), 0), placed(ball(whole(0, 0), 0), whole(1, 0), 0))
	checkRows(t, "pairs of one other ID", near, [][2]int{{4, 5}, {3, 6}, {0, 5}, {1, 5}, {5, 0}, {3, 1}})
	lost := held(w, []api.Joint{{ID: 1, A: 3, B: 4}, {ID: 2, A: 4, B: 3}})
	checkTies(t, "joints of other IDs", lost)
	for _, i := range []int{math.MinInt, -1, 3, 9, math.MaxInt} {
		rows := []solve.Row{{A: i, B: 1, N: one}, {A: 1, B: i, N: one}, {A: i, B: i, N: one}}
		ties := []solve.Tie{{A: i, B: 2, G: one, Off: one}, {A: 2, B: i, G: one, Off: one}}
		before := slices.Clone(rows)
		if got := solve.Solve(w.Bodies, rows, ties); !sameBodies(got, w.Bodies) || !slices.Equal(rows, before) {
			t.Errorf("Solve with the index %d returns %+v and %+v", i, got, rows)
		}
		if got := solve.Contacts(w, rows); len(got) != 0 {
			t.Errorf("Contacts with the index %d returns %+v", i, got)
		}
	}
}
