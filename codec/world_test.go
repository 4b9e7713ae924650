package codec_test

import (
	"fmt"
	"math"
	"runtime"
	"slices"
	"testing"

	"bagatelle/api"
	"bagatelle/codec"
	"bagatelle/shape"
	"bagatelle/world"
)

// scene returns a valid world that has everything, and IDs that are missing.
func scene() api.World {
	return api.World{
		Tick: 7, NextBody: 12, NextJoint: 8, Gravity: at(2, -3),
		Bodies: []api.Body{
			{ID: 2, Pos: at(1, 3), Vel: at(3, -1), Angle: api.One / 8, Spin: api.Pi, Density: api.One, Shape: disc()},
			{ID: 3, Pos: at(0, -4), Angle: api.One / 4, Shape: square()},
			{ID: 5, Pos: at(-6, 2), Vel: at(7, 10), Spin: -2, Density: half, Shape: round(7)},
			{ID: 9, Pos: at(8, 8), Shape: disc()},
		},
		Joints: []api.Joint{
			{ID: 1, A: 2, B: 5, At: at(1, 2), To: at(-3, 0), Len: api.Pi},
			{ID: 4, A: 9, B: 3, Len: api.Far},
			{ID: 6, A: 5, B: 2, To: at(0, 4)},
		},
		Contacts: []api.Contact{
			{A: 2, B: 3, N: 5, T: -2}, {A: 2, B: 3, Key: 7, N: 6}, {A: 2, B: 5, N: 1}, {A: 3, B: 9, Key: 1, N: 4}, {A: 5, B: 9, Key: 4, T: 3},
		},
	}
}

// crowd returns a valid world of so many bodies, joints and contacts.
func crowd(bodies, joints, contacts int) api.World {
	w := api.World{NextBody: bodies + 1, NextJoint: joints + 1}
	for i := range bodies {
		w.Bodies = append(w.Bodies, api.Body{ID: i + 1, Pos: at(i, -i), Shape: round(3 + i%6)})
	}
	for i := range joints {
		w.Joints = append(w.Joints, api.Joint{ID: i + 1, A: i%bodies + 1, B: (i+1)%bodies + 1, Len: api.F(i)})
	}
	for i := range contacts {
		w.Contacts = append(w.Contacts, api.Contact{A: 1, B: bodies, Key: i, N: api.F(i), T: api.F(-i)})
	}
	return w
}

func TestWorldLiterals(t *testing.T) {
	one := bytesOf("0100000000000000")
	empty := slices.Concat(num(8, 0), one, one, make([]byte, 16), make([]byte, 2), make([]byte, 2), make([]byte, 4))
	holdsWorld(t, "a new world", world.New(), empty)
	if len(empty) != 24+16+2+2+4 {
		t.Errorf("a new world has %d bytes", len(empty))
	}
	holdsWorld(t, "empty slices", api.World{NextBody: 1, NextJoint: 1, Bodies: []api.Body{}, Joints: []api.Joint{}, Contacts: []api.Contact{}}, empty)
	holdsWorld(t, "a world without anything", api.World{Tick: last, NextBody: 0x0102030405060708, NextJoint: 258, Gravity: api.V{X: api.Fast, Y: -1}},
		bytesOf(`0000000000000040 0807060504030201 0201000000000000 0000000000100000 ffffffffffffffff 0000 0000 00000000`))
	w := api.World{
		Tick: 1, NextBody: 0x204, NextJoint: 9, Gravity: api.V{X: -2, Y: 3},
		Bodies: []api.Body{
			{ID: 4, Pos: api.V{X: 5, Y: -6}, Vel: api.V{X: 7, Y: -8}, Angle: 9, Spin: -10, Density: 11, Shape: disc()},
			{ID: 0x203, Pos: api.V{X: api.Far, Y: -api.Far}, Angle: api.One - 1, Shape: api.Shape{Kind: api.Poly, P: []api.V{{X: -1, Y: -2}, {X: 30, Y: -2}, {Y: api.One}}}},
		},
		Joints: []api.Joint{{ID: 8, A: 0x203, B: 4, At: api.V{X: 12, Y: -13}, To: api.V{X: -14, Y: 15}, Len: 16}},
		Contacts: []api.Contact{
			{A: 4, B: 0x203, Key: 17, N: 18, T: -19},
			{A: 4, B: 0x203, Key: math.MaxInt, N: api.Most, T: lowest},
		},
	}
	holdsWorld(t, "a world with everything", w, bytesOf(`
		0100000000000000 0402000000000000 0900000000000000 feffffffffffffff 0300000000000000
		0200
		0400000000000000 0500000000000000 faffffffffffffff 0700000000000000 f8ffffffffffffff
		0900000000000000 f6ffffffffffffff 0b00000000000000 01 0000000001000000
		0302000000000000 0000000000001000 000000000000f0ff 0000000000000000 0000000000000000
		ffffffff00000000 0000000000000000 0000000000000000 02 03
		ffffffffffffffff feffffffffffffff 1e00000000000000 feffffffffffffff 0000000000000000 0000000001000000
		0100
		0800000000000000 0302000000000000 0400000000000000 0c00000000000000 f3ffffffffffffff
		f2ffffffffffffff 0f00000000000000 1000000000000000
		02000000
		0400000000000000 0302000000000000 1100000000000000 1200000000000000 edffffffffffffff
		0400000000000000 0302000000000000 ffffffffffffff7f ffffffffffffff7f 0000000000000080`))
}

// rightWorlds are changes after which a scene is valid.
func rightWorlds() []change[api.World] {
	return []change[api.World]{
		{"as it is", func(w *api.World) {}},
		{"Tick 0", func(w *api.World) { w.Tick = 0 }},
		{"Tick 2^62", func(w *api.World) { w.Tick = last }},
		{"NextBody 10", func(w *api.World) { w.NextBody = 10 }},
		{"NextBody 2^62", func(w *api.World) { w.NextBody = last }},
		{"NextJoint 7", func(w *api.World) { w.NextJoint = 7 }},
		{"NextJoint 2^62", func(w *api.World) { w.NextJoint = last }},
		{"Gravity Fast", func(w *api.World) { w.Gravity = api.V{X: api.Fast, Y: api.Fast} }},
		{"Gravity -Fast", func(w *api.World) { w.Gravity = api.V{X: -api.Fast, Y: -api.Fast} }},
		{"no joints", func(w *api.World) { w.Joints = nil }},
		{"no contacts", func(w *api.World) { w.Contacts = nil }},
		{"bodies alone", func(w *api.World) { w.Joints, w.Contacts = nil, nil }},
		{"nothing", func(w *api.World) { w.Bodies, w.Joints, w.Contacts = nil, nil, nil }},
		{"ID 1", func(w *api.World) { w.Bodies, w.Joints, w.Contacts = []api.Body{{ID: 1, Shape: disc()}}, nil, nil }},
		{"ID 2^62 - 1", func(w *api.World) {
			w.NextBody, w.Bodies = last, append(w.Bodies, api.Body{ID: last - 1, Shape: disc()})
		}},
		{"joint 2^62 - 1", func(w *api.World) { w.NextJoint, w.Joints[2].ID = last, last-1 }},
		{"Pos Far", func(w *api.World) { w.Bodies[0].Pos = api.V{X: api.Far, Y: -api.Far} }},
		{"Pos -Far", func(w *api.World) { w.Bodies[1].Pos = api.V{X: -api.Far, Y: api.Far} }},
		{"Vel Fast", func(w *api.World) { w.Bodies[0].Vel = api.V{X: api.Fast, Y: -api.Fast} }},
		{"Vel -Fast", func(w *api.World) { w.Bodies[2].Vel = api.V{X: -api.Fast, Y: api.Fast} }},
		{"Angle One - 1", func(w *api.World) { w.Bodies[3].Angle = api.One - 1 }},
		{"Spin Whirl", func(w *api.World) { w.Bodies[0].Spin = api.Whirl }},
		{"Spin -Whirl", func(w *api.World) { w.Bodies[0].Spin = -api.Whirl }},
		{"Density 1", func(w *api.World) { w.Bodies[1].Density = 1 }},
		{"Density Heavy", func(w *api.World) { w.Bodies[2].Density = world.Heavy }},
		{"a small disc", func(w *api.World) { w.Bodies[2].Shape = api.Shape{Kind: 1, R: shape.Small} }},
		{"a great disc", func(w *api.World) { w.Bodies[1].Shape = api.Shape{Kind: 1, R: shape.Great} }},
		{"8 corners", func(w *api.World) { w.Bodies[0].Shape = round(8) }},
		{"3 corners", func(w *api.World) { w.Bodies[3].Shape = round(3) }},
		{"At and To 64", func(w *api.World) { w.Joints[0].At, w.Joints[1].To = api.V{X: arm, Y: -arm}, api.V{X: -arm, Y: arm} }},
		{"Len 0", func(w *api.World) { w.Joints[0].Len = 0 }},
		{"Len Far", func(w *api.World) { w.Joints[2].Len = api.Far }},
		{"two joints alike", func(w *api.World) { w.Joints[1].A, w.Joints[1].B = 2, 5 }},
		{"Key 2^63 - 1", func(w *api.World) { w.Contacts[4].Key = math.MaxInt }},
		{"N 0, T 0", func(w *api.World) { w.Contacts[0].N, w.Contacts[0].T = 0, 0 }},
		{"N Most, T Most", func(w *api.World) { w.Contacts[0].N, w.Contacts[0].T = api.Most, api.Most }},
		{"T Least", func(w *api.World) { w.Contacts[0].T = api.Least }},
		{"T -2^63", func(w *api.World) { w.Contacts[0].T = lowest }},
	}
}

// wrongWorlds are changes after which a scene isn't valid.
func wrongWorlds() []change[api.World] {
	l := []change[api.World]{
		{"Tick -1", func(w *api.World) { w.Tick = -1 }},
		{"Tick beyond 2^62", func(w *api.World) { w.Tick = last + 1 }},
		{"Tick -2^63", func(w *api.World) { w.Tick = math.MinInt }},
		{"NextBody 0", func(w *api.World) { w.NextBody = 0 }},
		{"NextBody 0, no bodies", func(w *api.World) { *w = api.World{NextJoint: 1} }},
		{"NextBody -1", func(w *api.World) { w.NextBody = -1 }},
		{"NextBody beyond 2^62", func(w *api.World) { w.NextBody = last + 1 }},
		{"NextBody 9", func(w *api.World) { w.NextBody = 9 }},
		{"NextJoint 0", func(w *api.World) { w.NextJoint = 0 }},
		{"NextJoint 0, no joints", func(w *api.World) { w.NextJoint, w.Joints = 0, nil }},
		{"NextJoint beyond 2^62", func(w *api.World) { w.NextJoint = last + 1 }},
		{"NextJoint 6", func(w *api.World) { w.NextJoint = 6 }},
		{"Gravity.X beyond Fast", func(w *api.World) { w.Gravity.X = api.Fast + 1 }},
		{"Gravity.X below -Fast", func(w *api.World) { w.Gravity.X = -api.Fast - 1 }},
		{"Gravity.Y beyond Fast", func(w *api.World) { w.Gravity.Y = api.Fast + 1 }},
		{"Gravity.Y -2^63", func(w *api.World) { w.Gravity.Y = lowest }},
		{"ID 0", func(w *api.World) { w.Bodies[0].ID, w.Joints, w.Contacts = 0, nil, nil }},
		{"ID -1", func(w *api.World) { w.Bodies[0].ID, w.Joints, w.Contacts = -1, nil, nil }},
		{"an ID twice", func(w *api.World) { w.Bodies[2].ID, w.Joints, w.Contacts = 3, nil, nil }},
		{"IDs that descend", func(w *api.World) { w.Bodies[0], w.Bodies[1] = w.Bodies[1], w.Bodies[0] }},
		{"joint 0", func(w *api.World) { w.Joints[0].ID = 0 }},
		{"a joint twice", func(w *api.World) { w.Joints[1].ID = 1 }},
		{"joints that descend", func(w *api.World) { w.Joints[1].ID = 7 }},
		{"A of a joint 0", func(w *api.World) { w.Joints[0].A = 0 }},
		{"A of a joint missing", func(w *api.World) { w.Joints[0].A = 4 }},
		{"B of a joint missing", func(w *api.World) { w.Joints[2].B = 11 }},
		{"A and B of a joint alike", func(w *api.World) { w.Joints[1].A = 3 }},
		{"At beyond 64", func(w *api.World) { w.Joints[0].At.X = arm + 1 }},
		{"At below -64", func(w *api.World) { w.Joints[0].At.Y = -arm - 1 }},
		{"To beyond 64", func(w *api.World) { w.Joints[1].To.Y = arm + 1 }},
		{"To below -64", func(w *api.World) { w.Joints[2].To.X = -arm - 1 }},
		{"Len -1", func(w *api.World) { w.Joints[0].Len = -1 }},
		{"Len beyond Far", func(w *api.World) { w.Joints[1].Len++ }},
		{"no bodies but joints", func(w *api.World) { w.Bodies, w.Contacts = nil, nil }},
		{"no bodies but contacts", func(w *api.World) { w.Bodies, w.Joints = nil, nil }},
		{"A of a contact missing", func(w *api.World) { w.Contacts[0].A = 1 }},
		{"B of a contact missing", func(w *api.World) { w.Contacts[2].B = 6 }},
		{"A and B of a contact alike", func(w *api.World) { w.Contacts[4].A = 9 }},
		{"A of a contact above B", func(w *api.World) { w.Contacts[4].A, w.Contacts[4].B = 9, 5 }},
		{"Key -1", func(w *api.World) { w.Contacts[0].Key = -1 }},
		{"Key -2^63", func(w *api.World) { w.Contacts[4].Key = math.MinInt }},
		{"N -1", func(w *api.World) { w.Contacts[0].N = -1 }},
		{"N -2^63", func(w *api.World) { w.Contacts[4].N = lowest }},
		{"a contact twice", func(w *api.World) { w.Contacts[1] = w.Contacts[0] }},
		{"a contact twice, with other impulses", func(w *api.World) { w.Contacts[1].Key = 0 }},
		{"contacts that descend by Key", func(w *api.World) { w.Contacts[0].Key = 8 }},
		{"contacts that descend by B", func(w *api.World) { w.Contacts[1], w.Contacts[2] = w.Contacts[2], w.Contacts[1] }},
		{"contacts that descend by A", func(w *api.World) { w.Contacts[3], w.Contacts[4] = w.Contacts[4], w.Contacts[3] }},
	}
	for _, c := range faults()["AddBody"] {
		for i := range 4 {
			l = append(l, change[api.World]{fmt.Sprintf("%s, body %d", c.name, i), func(w *api.World) {
				// The faults are told by orders that move, with corners.
				o := c.of(addBody())
				w.Bodies[i] = api.Body{ID: w.Bodies[i].ID, Pos: o.Pos, Vel: o.Vel, Angle: o.Angle, Spin: o.Spin, Density: o.Density, Shape: o.Shape}
			}})
		}
	}
	return l
}

func TestRightWorlds(t *testing.T) {
	for _, c := range rightWorlds() {
		w := c.of(scene())
		if !world.Right(w) {
			t.Fatalf("%s: it isn't valid", c.name)
		}
		holdsWorld(t, c.name, w, plainWorld(w))
	}
}

func TestWrongWorlds(t *testing.T) {
	for _, c := range wrongWorlds() {
		w := c.of(scene())
		if world.Right(w) {
			t.Fatalf("%s: it is valid", c.name)
		}
		noWorld(t, c.name, plainWorld(w))
	}
	noWorld(t, "a world of zeros", make([]byte, 48))
}

func TestCrowds(t *testing.T) {
	for _, c := range []struct{ bodies, joints, contacts int }{
		{1, 0, 0}, {2, 0, 0}, {3, 1, 0}, {3, 2, 1}, {2, 0, 2}, {255, 0, 0}, {256, 255, 255}, {257, 256, 256}, {258, 257, 257},
		{1024, 0, 0}, {1024, 1024, 1024}, {2, 1024, 0}, {2, 0, 65535}, {2, 0, 65536}, {2, 0, 65537}, {1024, 1024, 70000},
	} {
		w := crowd(c.bodies, c.joints, c.contacts)
		b := plainWorld(w)
		if got := codec.World(w); string(got) != string(b) {
			t.Errorf("a crowd of %v has another encoding", c)
		}
		if got, e := codec.ReadWorld(b); e != api.OK || !world.Same(got, w) {
			t.Errorf("a crowd of %v isn't restored: %d", c, e)
		}
	}
	for _, c := range []struct{ bodies, joints int }{{1025, 0}, {2, 1025}, {1025, 1025}, {2048, 0}, {1024, 2048}, {2, 65535}, {65535, 2}} {
		if got, e := codec.ReadWorld(plainWorld(crowd(c.bodies, c.joints, 1))); e != api.ErrForm || !equal(got, api.World{}) {
			t.Errorf("a crowd of %v is read: %d", c, e)
		}
	}
}

// Numbers of bodies, joints and contacts that aren't those of what follows.
func TestWorldOfOtherNumbers(t *testing.T) {
	w := scene()
	b := plainWorld(w)
	joints := 42 + len(plainWorld(api.World{Bodies: w.Bodies})) - 48
	contacts := joints + 2 + 64*len(w.Joints)
	for _, c := range []struct{ at, size, is int }{{40, 2, 4}, {joints, 2, 3}, {contacts, 4, 5}} {
		if got := (&cursor{b: b[c.at:]}).num(c.size); got != c.is {
			t.Fatalf("there is %d, not %d", got, c.is)
		}
		for _, n := range []int{0, 1, 2, 3, 4, 5, 6, 8, 16, 255, 256, 1023, 1024, 1025, 4096, 1 << 15, 1<<16 - 1} {
			if n != c.is {
				noWorld(t, fmt.Sprintf("%d told of as %d", c.is, n), slices.Concat(b[:c.at], num(c.size, n), b[c.at+c.size:]))
			}
		}
	}
	for _, n := range []int{5 << 8, 5 << 16, 5 << 24, 5 + 1<<16, 5 + 1<<24, 1 << 31, 1<<32 - 1} {
		noWorld(t, fmt.Sprintf("5 contacts told of as %d", n), slices.Concat(b[:contacts], num(4, n), b[contacts+4:]))
	}
}

// Few bytes that tell of many contacts don't take much memory.
func TestFewBytesOfManyContacts(t *testing.T) {
	w := scene()
	w.Contacts = nil
	b := plainWorld(w)
	for _, tail := range [][]byte{nil, make([]byte, 39), make([]byte, 40), make([]byte, 1000)} {
		long := slices.Concat(b[:len(b)-4], []byte{255, 255, 255, 255}, tail)
		var before, after runtime.MemStats
		runtime.ReadMemStats(&before)
		noWorld(t, "2^32 - 1 contacts", long)
		runtime.ReadMemStats(&after)
		if n := after.TotalAlloc - before.TotalAlloc; n > 1<<20 {
			t.Errorf("%d bytes take %d bytes of memory", len(long), n)
		}
	}
}

// Bytes that end too soon, or go on.
func TestWorldOfOtherLength(t *testing.T) {
	ends := []api.World{scene(), world.New(), crowd(2, 0, 0), crowd(3, 1, 0), crowd(3, 0, 1)}
	for i, w := range ends {
		b := plainWorld(w)
		holdsWorld(t, "a world", w, b)
		for n := range b {
			noWorld(t, fmt.Sprintf("%d of %d bytes of world %d", n, len(b), i), b[:n])
		}
		for _, more := range [][]byte{{0}, {1}, {255}, make([]byte, 8), make([]byte, 40), make([]byte, 1000), b} {
			noWorld(t, fmt.Sprintf("world %d and more", i), append(slices.Clone(b), more...))
		}
	}
	noWorld(t, "nil", nil)
	noWorld(t, "no bytes", []byte{})
}

// Kinds that no shape has, and numbers of corners that aren't those that follow.
func TestWorldsOfOtherShapes(t *testing.T) {
	for size := 3; size <= 8; size++ {
		w := crowd(6, 0, 0)
		w.Bodies = w.Bodies[size-3 : size-2]
		b := plainWorld(w)
		holdsWorld(t, "one body", w, b)
		i := 42 + 64
		if b[i] != 2 || int(b[i+1]) != size {
			t.Fatalf("there is %x, not a polygon of %d corners", b[i:i+2], size)
		}
		for n := range 256 {
			if n != size {
				noWorld(t, fmt.Sprintf("%d corners told of as %d", size, n), slices.Concat(b[:i+1], []byte{byte(n)}, b[i+2:]))
			}
			if n != 2 {
				noWorld(t, fmt.Sprintf("a shape of kind %d", n), slices.Concat(b[:i], []byte{byte(n)}, b[i+1:]))
				noWorld(t, fmt.Sprintf("a shape of kind %d without anything", n), slices.Concat(b[:i], []byte{byte(n)}, make([]byte, 6)))
			}
		}
	}
}

func TestWorldMemory(t *testing.T) {
	w := scene()
	first, second := codec.World(w), codec.World(w)
	want := plainWorld(w)
	for i := range first {
		first[i] ^= 0xff
	}
	_ = append(first, 1, 2, 3)
	if string(second) != string(want) || string(codec.World(w)) != string(want) {
		t.Error("two encodings share memory")
	}
	if !world.Same(w, scene()) {
		t.Errorf("World has changed its argument: %+v", w)
	}
	got, _ := codec.ReadWorld(second)
	again, _ := codec.ReadWorld(second)
	if string(second) != string(want) {
		t.Errorf("ReadWorld has changed its bytes: %x", second)
	}
	clear(second)
	if !world.Same(got, scene()) {
		t.Errorf("the world changes with its bytes: %+v", got)
	}
	for i := range got.Bodies {
		// Neither what is in the corners' slices nor what is behind them is another one's.
		clear(got.Bodies[i].Shape.P)
		_ = append(got.Bodies[i].Shape.P, at(7, 7), at(8, 8), at(9, 9))
		got.Bodies[i].Shape = scene().Bodies[i].Shape
		if !world.Same(got, scene()) {
			t.Fatalf("the corners of body %d share memory with others: %+v", i, got)
		}
	}
	_, _, _ = append(got.Bodies, api.Body{}), append(got.Joints, api.Joint{}), append(got.Contacts, api.Contact{})
	clear(got.Bodies)
	clear(got.Joints)
	clear(got.Contacts)
	if !world.Same(again, scene()) {
		t.Errorf("two worlds share memory: %+v", again)
	}
}

// What lies behind the bytes that are handed in isn't touched, and doesn't matter.
func TestWorldMemoryBehind(t *testing.T) {
	b := plainWorld(scene())
	n := len(b)
	b = append(b, b...)
	kept := slices.Clone(b)
	if got, e := codec.ReadWorld(b[:n]); e != api.OK || !world.Same(got, scene()) {
		t.Errorf("ReadWorld of the first bytes = %+v, %d", got, e)
	}
	noWorld(t, "bytes that go on elsewhere", b[:n-1])
	if string(b) != string(kept) {
		t.Error("ReadWorld has changed what is behind its bytes")
	}
}

// The document holds invalid worlds only to P0: the calls end, and don't panic.
func TestInvalidWorlds(t *testing.T) {
	for _, n := range []int{math.MinInt, -1, 0, 7, 300, math.MaxInt} {
		for _, s := range []api.Shape{{}, {Kind: n}, {Kind: 1, P: make([]api.V, 5)}, {Kind: 2, R: 9}, {Kind: 2, P: make([]api.V, 1000)}} {
			codec.World(api.World{
				Tick: n, NextBody: n, NextJoint: n, Gravity: at(n, n),
				Bodies:   []api.Body{{ID: n, Shape: s}, {ID: n, Angle: api.F(n), Shape: s}},
				Joints:   []api.Joint{{ID: n, A: n, B: n}},
				Contacts: []api.Contact{{A: n, B: n, Key: n, N: api.F(n)}, {}},
			})
		}
	}
	for _, c := range wrongWorlds() {
		codec.World(c.of(scene()))
	}
	codec.World(api.World{})
	codec.World(crowd(3000, 70000, 3))
}
