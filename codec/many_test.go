package codec_test

import (
	"slices"
	"testing"

	"bagatelle/api"
	"bagatelle/codec"
	"bagatelle/order"
	"bagatelle/shape"
	"bagatelle/step"
	"bagatelle/world"
)

func anyShape(next func(n int) int) api.Shape {
	if next(3) == 0 {
		return api.Shape{Kind: 1, R: pick(next, shape.Small, shape.Great, shape.Small+api.F(next(int(arm-shape.Small))))}
	}
	s := round(3 + next(6))
	s.P = slices.Clone(s.P)
	for i := range s.P {
		// So little that the polygon stays convex.
		s.P[i].X += api.F(next(1 << 20))
		s.P[i].Y -= api.F(next(1 << 20))
	}
	return s
}

func anyBody(next func(n int) int) api.Body {
	b := api.Body{Pos: anyV(next, api.Far), Angle: api.F(next(int(api.One))), Shape: anyShape(next)}
	if next(3) > 0 {
		b.Density = pick(next, 1, api.One, world.Heavy, 1+api.F(next(int(world.Heavy))))
		b.Vel, b.Spin = anyV(next, api.Fast), upTo(next, api.Whirl)
	}
	return b
}

func anyID(next func(n int) int) int {
	return 1 + pick(next, 0, next(256), next(1<<16), next(1<<40), last)
}

func anyOrder(next func(n int) int) api.Order {
	switch kind := 1 + next(6); kind {
	case api.AddBody:
		b := anyBody(next)
		return api.Order{Kind: kind, Pos: b.Pos, Vel: b.Vel, Angle: b.Angle, Spin: b.Spin, Density: b.Density, Shape: b.Shape}
	case api.AddJoint:
		o := api.Order{Kind: kind, A: anyID(next), B: anyID(next), Pos: anyV(next, arm), Vel: anyV(next, arm), Len: api.F(next(int(api.Far) + 1))}
		if o.A == o.B {
			o.B++
		}
		return o
	case api.Push:
		return api.Order{Kind: kind, ID: anyID(next), Vel: anyV(next, order.Great), Spin: upTo(next, order.Great)}
	case api.Pull:
		return api.Order{Kind: kind, Vel: anyV(next, api.Fast)}
	default:
		return api.Order{Kind: kind, ID: anyID(next)}
	}
}

func anyBatch(next func(n int) int, most int) []api.Order {
	var l []api.Order
	for range next(most + 1) {
		l = append(l, anyOrder(next))
	}
	return l
}

func anyWorld(next func(n int) int, most int) api.World {
	w := api.World{Tick: pick(next, 0, last, next(last), next(1000)), Gravity: anyV(next, api.Fast)}
	id := 0
	for range next(most + 1) {
		b := anyBody(next)
		id += 1 + next(1<<(next(50)))
		b.ID = id
		w.Bodies = append(w.Bodies, b)
	}
	w.NextBody = pick(next, id+1, last, id+1+next(1000))
	id = 0
	for range next(most+1) * min(1, len(w.Bodies)/2) {
		id += 1 + next(1<<(next(50)))
		a := next(len(w.Bodies))
		b := (a + 1 + next(len(w.Bodies)-1)) % len(w.Bodies)
		w.Joints = append(w.Joints, api.Joint{ID: id, A: w.Bodies[a].ID, B: w.Bodies[b].ID, At: anyV(next, arm), To: anyV(next, arm), Len: api.F(next(int(api.Far) + 1))})
	}
	w.NextJoint = pick(next, id+1, last, id+1+next(1000))
	for i := range w.Bodies {
		for j := i + 1; j < len(w.Bodies); j++ {
			key := -1
			for range next(3) {
				key += 1 + next(1<<(next(50)))
				w.Contacts = append(w.Contacts, api.Contact{A: w.Bodies[i].ID, B: w.Bodies[j].ID, Key: key, N: api.F(next(int(api.Most))), T: upTo(next, api.Most)})
			}
		}
	}
	return w
}

func TestAnyBatches(t *testing.T) {
	next := noise()
	told := map[string][]api.Order{}
	for i := range 1500 {
		l := anyBatch(next, 1+i%64)
		for _, o := range l {
			if !order.Right(o) {
				t.Fatalf("%+v isn't valid", o)
			}
		}
		b := codec.Batch(l)
		holdsBatch(t, "any batch", l, plainBatch(l))
		if other, ok := told[string(b)]; ok && !sameBatch(other, l) {
			t.Fatalf("%+v and %+v have the same encoding", l, other)
		}
		told[string(b)] = l
	}
	if len(told) < 1000 {
		t.Errorf("only %d batches are different", len(told))
	}
}

func TestAnyWorlds(t *testing.T) {
	next := noise()
	told := map[string]api.World{}
	for i := range 800 {
		w := anyWorld(next, i%12)
		if !world.Right(w) {
			t.Fatalf("%+v isn't valid", w)
		}
		b := codec.World(w)
		holdsWorld(t, "any world", w, plainWorld(w))
		if other, ok := told[string(b)]; ok && !world.Same(other, w) {
			t.Fatalf("%+v and %+v have the same encoding", w, other)
		}
		told[string(b)] = w
	}
	if len(told) < 500 {
		t.Errorf("only %d worlds are different", len(told))
	}
}

// Batches and worlds that differ in one thing only have different encodings.
func TestOneThingIsDifferent(t *testing.T) {
	batches := map[string]string{}
	for kind, changes := range edges() {
		for _, c := range changes {
			for i, start := range starts(kind) {
				name := string(plainOrder(c.of(start)))
				b := string(codec.Batch([]api.Order{c.of(start)}))
				if other, ok := batches[b]; ok && other != name {
					t.Errorf("%s, %s (%d) has the encoding of another order", kind, c.name, i)
				}
				batches[b] = name
			}
		}
	}
	worlds := map[string]string{}
	for _, c := range rightWorlds() {
		b := string(codec.World(c.of(scene())))
		if other, ok := worlds[b]; ok {
			t.Errorf("the worlds %q and %q have the same encoding", other, c.name)
		}
		worlds[b] = c.name
	}
}

// bent returns b with some small damage.
func bent(next func(n int) int, b []byte) []byte {
	b = slices.Clone(b)
	i := next(len(b) + 1)
	switch kind := next(6); {
	case kind == 0:
		return b[:i]
	case kind == 1:
		return slices.Insert(b, i, byte(next(256)))
	case i == len(b):
		return b
	case kind == 2:
		return slices.Delete(b, i, min(len(b), i+1+next(3)))
	case kind == 3:
		b[i] = pick[byte](next, 0, 1, 2, 3, 255)
	case kind == 4:
		b[i] = byte(next(256))
	default:
		b[i] ^= 1 << next(8)
	}
	return b
}

// agrees reports an error if ReadBatch doesn't read b by the chapter's words. It
// returns whether b is a batch.
func agrees(t *testing.T, b []byte) bool {
	t.Helper()
	want, ok := plainReadBatch(b)
	if ok {
		holdsBatch(t, "any bytes", want, b)
	} else {
		noBatch(t, "any bytes", b)
	}
	return ok
}

// worldAgrees is agrees for ReadWorld.
func worldAgrees(t *testing.T, b []byte) bool {
	t.Helper()
	want, ok := plainReadWorld(b)
	if ok {
		holdsWorld(t, "any bytes", want, b)
	} else {
		noWorld(t, "any bytes", b)
	}
	return ok
}

func TestBentBatches(t *testing.T) {
	next := noise()
	right, wrong := 0, 0
	for range 20000 {
		b := codec.Batch(anyBatch(next, 5))
		for range 1 + next(2) {
			b = bent(next, b)
		}
		if agrees(t, b) {
			right++
		} else {
			wrong++
		}
	}
	if right < 2000 || wrong < 2000 {
		t.Errorf("%d bent batches are right and %d aren't", right, wrong)
	}
}

func TestBentWorlds(t *testing.T) {
	next := noise()
	right, wrong := 0, 0
	for i := range 20000 {
		b := codec.World(anyWorld(next, 1+i%5))
		for range 1 + next(2) {
			b = bent(next, b)
		}
		if worldAgrees(t, b) {
			right++
		} else {
			wrong++
		}
	}
	if right < 2000 || wrong < 2000 {
		t.Errorf("%d bent worlds are right and %d aren't", right, wrong)
	}
}

// Each byte of some encodings becomes each other one.
func TestEachByte(t *testing.T) {
	b := plainBatch(orders())
	for i := range b {
		for x := range 256 {
			agrees(t, slices.Concat(b[:i], []byte{byte(x)}, b[i+1:]))
		}
	}
	b = plainWorld(scene())
	for i := range b {
		for _, x := range []byte{0, 1, 2, 3, 4, 7, 8, 9, 63, 64, 127, 128, 254, 255, b[i] ^ 1, b[i] ^ 128, b[i] + 1} {
			worldAgrees(t, slices.Concat(b[:i], []byte{x}, b[i+1:]))
		}
	}
}

// Bytes of noise, most of them small.
func TestNoise(t *testing.T) {
	next := noise()
	for range 30000 {
		b := make([]byte, next(120))
		for i := range b {
			if next(3) > 0 {
				b[i] = pick(next, 0, 0, 0, byte(next(7)), byte(next(256)))
			}
		}
		agrees(t, b)
		worldAgrees(t, b)
	}
}

// The worlds of a pile that falls down, with all that they come to hold, are
// restored, and go on as if they hadn't been.
func TestWorldsOfSteps(t *testing.T) {
	next := noise()
	w := world.New()
	batch := []api.Order{pull(), {Kind: 1, Pos: at(0, -1), Shape: shape.Box(arm, api.One)}}
	for i := range 12 {
		batch = append(batch, api.Order{Kind: 1, Pos: at(2*(i%4), 1+2*(i/4)), Density: api.One, Shape: pick(next, disc(), square())})
	}
	batch = append(batch, api.Order{Kind: 3, A: 2, B: 7, Len: api.Pi}, api.Order{Kind: 3, A: 4, B: 5, Pos: at(1, 1), Len: api.One})
	most := 0
	for i := range 120 {
		l, e := codec.ReadBatch(codec.Batch(batch))
		from, e2 := codec.ReadWorld(codec.World(w))
		if e != api.OK || e2 != api.OK || !sameBatch(l, batch) || !world.Same(from, w) {
			t.Fatalf("tick %d isn't restored: %d, %d", i, e, e2)
		}
		going, e := step.Step(from, l)
		stayed, e2 := step.Step(w, batch)
		if e != api.OK || e2 != api.OK || string(codec.World(going)) != string(plainWorld(stayed)) {
			t.Fatalf("tick %d goes on in another way: %d, %d", i, e, e2)
		}
		w, batch, most = stayed, nil, max(most, len(stayed.Contacts))
		if i%10 == 5 {
			batch = []api.Order{{Kind: 5, ID: 2 + next(12), Vel: at(next(9)-4, 5), Spin: api.One}, {Kind: 2, ID: next(30)}, {Kind: 4, ID: 1}}
		}
	}
	if most < 5 || len(w.Bodies) > 12 {
		t.Errorf("there were %d contacts at most, and %d bodies are left", most, len(w.Bodies))
	}
}
