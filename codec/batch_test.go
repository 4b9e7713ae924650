package codec_test

import (
	"fmt"
	"math"
	"slices"
	"testing"

	"bagatelle/api"
	"bagatelle/codec"
	"bagatelle/order"
	"bagatelle/shape"
	"bagatelle/world"
)

func addBody() api.Order {
	return api.Order{Kind: 1, Pos: at(1, 2), Vel: at(3, -4), Angle: half, Spin: -5, Density: api.One, Shape: square()}
}

func addBall() api.Order {
	o := addBody()
	o.Shape = disc()
	return o
}

func removeBody() api.Order { return api.Order{Kind: 2, ID: 5} }

func addJoint() api.Order {
	return api.Order{Kind: 3, A: 9, B: 2, Pos: at(1, -2), Vel: at(-3, 4), Len: api.Pi}
}

func removeJoint() api.Order { return api.Order{Kind: 4, ID: 4} }

func push() api.Order { return api.Order{Kind: 5, ID: 5, Vel: at(3, -5), Spin: api.Pi} }

func pull() api.Order { return api.Order{Kind: 6, Vel: at(1, -10)} }

// orders returns an order of each kind, and of each kind of shape.
func orders() []api.Order {
	return []api.Order{addBody(), removeBody(), addJoint(), addBall(), removeJoint(), push(), pull()}
}

// literals are orders and their encodings, in base 16.
func literals() []struct {
	o    api.Order
	want string
} {
	return []struct {
		o    api.Order
		want string
	}{
		{api.Order{Kind: api.AddBody, Pos: api.V{X: 1, Y: -2}, Vel: api.V{X: 3, Y: 260}, Angle: 5, Spin: -6, Density: 7, Shape: disc()},
			`01 0100000000000000 feffffffffffffff 0300000000000000 0401000000000000
			0500000000000000 faffffffffffffff 0700000000000000 01 0000000001000000`},
		{api.Order{Kind: api.AddBody, Pos: api.V{X: api.Far, Y: -api.Far}, Angle: api.One - 1, Shape: api.Shape{Kind: api.Poly, P: []api.V{{X: -1, Y: -2}, {X: 30, Y: -2}, {Y: api.One}}}},
			`01 0000000000001000 000000000000f0ff 0000000000000000 0000000000000000
			ffffffff00000000 0000000000000000 0000000000000000 02 03
			ffffffffffffffff feffffffffffffff 1e00000000000000 feffffffffffffff 0000000000000000 0000000001000000`},
		{api.Order{Kind: api.RemoveBody, ID: 258}, `02 0201000000000000`},
		{api.Order{Kind: api.RemoveBody, ID: math.MaxInt}, `02 ffffffffffffff7f`},
		{api.Order{Kind: api.AddJoint, A: 0x0102030405060708, B: 2, Pos: api.V{X: 3, Y: -4}, Vel: api.V{X: -5, Y: 6}, Len: 7},
			`03 0807060504030201 0200000000000000 0300000000000000 fcffffffffffffff
			fbffffffffffffff 0600000000000000 0700000000000000`},
		{api.Order{Kind: api.RemoveJoint, ID: 1}, `04 0100000000000000`},
		{api.Order{Kind: api.Push, ID: 2, Vel: api.V{X: order.Great, Y: -order.Great}, Spin: -1},
			`05 0200000000000000 0000000000000040 00000000000000c0 ffffffffffffffff`},
		{api.Order{Kind: api.Pull, Vel: api.V{X: api.Fast, Y: -api.Fast}}, `06 0000000000100000 0000000000f0ffff`},
		{api.Order{Kind: api.Pull}, `06 0000000000000000 0000000000000000`},
	}
}

func TestBatchLiterals(t *testing.T) {
	holdsBatch(t, "no orders", nil, bytesOf("00 00"))
	holdsBatch(t, "an empty slice", []api.Order{}, bytesOf("00 00"))
	var all []api.Order
	text := "09 00"
	for _, c := range literals() {
		holdsBatch(t, "one order", []api.Order{c.o}, bytesOf("01 00"+c.want))
		holdsBatch(t, "an order twice", []api.Order{c.o, c.o}, bytesOf("02 00"+c.want+c.want))
		all = append(all, c.o)
		text += c.want
	}
	holdsBatch(t, "all orders", all, bytesOf(text))
}

// Each kind next to each other one, in either order.
func TestBatchOfTwo(t *testing.T) {
	for i, a := range orders() {
		for j, b := range orders() {
			l := []api.Order{a, b}
			holdsBatch(t, fmt.Sprintf("orders %d and %d", i, j), l, plainBatch(l))
		}
	}
}

func TestBatchSizes(t *testing.T) {
	for _, o := range append(orders(), api.Order{Kind: 1, Shape: round(8)}) {
		for n := range api.MaxOrders + 1 {
			l := slices.Repeat([]api.Order{o}, n)
			holdsBatch(t, fmt.Sprintf("%d orders", n), l, plainBatch(l))
		}
		for _, n := range []int{65, 66, 128, 256, 257, 320, 1024, 65535} {
			noBatch(t, fmt.Sprintf("%d orders", n), plainBatch(slices.Repeat([]api.Order{o}, n)))
		}
	}
	if n := len(codec.Batch(slices.Repeat([]api.Order{{Kind: 1, Shape: round(8)}}, api.MaxOrders))); n != 2+64*187 || n > api.MaxBatch {
		t.Errorf("the longest batch has %d bytes", n)
	}
}

// A number of orders that isn't that of the orders that follow.
func TestBatchOfAnotherNumber(t *testing.T) {
	for size := range 9 {
		l := slices.Repeat(orders(), 2)[:size]
		b := plainBatch(l)
		for n := range 1 << 16 {
			if n != size {
				noBatch(t, fmt.Sprintf("%d orders told of as %d", size, n), append(num(2, n), b[2:]...))
			}
		}
	}
}

// Bytes that end too soon, or go on.
func TestBatchOfOtherLength(t *testing.T) {
	l := append(orders(), api.Order{Kind: 1, Shape: round(7)})
	for i := range l {
		// Each order is the last one once, and alone once.
		for _, some := range [][]api.Order{l[i : i+1], append(slices.Clone(l[i+1:]), l[:i+1]...)} {
			b := plainBatch(some)
			for n := range b {
				noBatch(t, fmt.Sprintf("%d of %d bytes", n, len(b)), b[:n])
			}
			for _, more := range [][]byte{{0}, {1}, {255}, plainOrder(l[i]), make([]byte, 1000)} {
				noBatch(t, "bytes that go on", append(slices.Clone(b), more...))
			}
		}
	}
	noBatch(t, "nil", nil)
	noBatch(t, "no bytes", []byte{})
	noBatch(t, "one byte", []byte{0})
	noBatch(t, "three bytes", []byte{0, 0, 0})
}

// edges are changes of orders to what they may be at most, and at least.
func edges() map[string][]change[api.Order] {
	return map[string][]change[api.Order]{
		"AddBody": {
			{"Pos.X Far", func(o *api.Order) { o.Pos.X = api.Far }},
			{"Pos.X -Far", func(o *api.Order) { o.Pos.X = -api.Far }},
			{"Pos.Y Far", func(o *api.Order) { o.Pos.Y = api.Far }},
			{"Pos.Y -Far", func(o *api.Order) { o.Pos.Y = -api.Far }},
			{"Vel.X Fast", func(o *api.Order) { o.Vel.X = api.Fast }},
			{"Vel.X -Fast", func(o *api.Order) { o.Vel.X = -api.Fast }},
			{"Vel.Y Fast", func(o *api.Order) { o.Vel.Y = api.Fast }},
			{"Vel.Y -Fast", func(o *api.Order) { o.Vel.Y = -api.Fast }},
			{"Angle 0", func(o *api.Order) { o.Angle = 0 }},
			{"Angle One - 1", func(o *api.Order) { o.Angle = api.One - 1 }},
			{"Spin Whirl", func(o *api.Order) { o.Spin = api.Whirl }},
			{"Spin -Whirl", func(o *api.Order) { o.Spin = -api.Whirl }},
			{"Density 1", func(o *api.Order) { o.Density = 1 }},
			{"Density Heavy", func(o *api.Order) { o.Density = world.Heavy }},
			{"Density 0", func(o *api.Order) { o.Density, o.Vel, o.Spin = 0, api.V{}, 0 }},
			{"a small disc", func(o *api.Order) { o.Shape = api.Shape{Kind: 1, R: shape.Small} }},
			{"a great disc", func(o *api.Order) { o.Shape = api.Shape{Kind: 1, R: shape.Great} }},
			{"3 corners", func(o *api.Order) { o.Shape = round(3) }},
			{"5 corners", func(o *api.Order) { o.Shape = round(5) }},
			{"8 corners", func(o *api.Order) { o.Shape = round(8) }},
			{"a great box", func(o *api.Order) { o.Shape = shape.Box(shape.Great, shape.Great) }},
			{"a tiny box", func(o *api.Order) { o.Shape = shape.Box(1<<16, 1<<16) }},
		},
		"RemoveBody": {
			{"ID 1", func(o *api.Order) { o.ID = 1 }},
			{"ID 2^62", func(o *api.Order) { o.ID = last }},
			{"ID 2^63 - 1", func(o *api.Order) { o.ID = math.MaxInt }},
		},
		"AddJoint": {
			{"A 1", func(o *api.Order) { o.A = 1 }},
			{"A 2^63 - 1", func(o *api.Order) { o.A = math.MaxInt }},
			{"B 1", func(o *api.Order) { o.B = 1 }},
			{"B 2^63 - 1", func(o *api.Order) { o.B = math.MaxInt }},
			{"Pos 64", func(o *api.Order) { o.Pos = api.V{X: arm, Y: arm} }},
			{"Pos -64", func(o *api.Order) { o.Pos = api.V{X: -arm, Y: -arm} }},
			{"Vel 64", func(o *api.Order) { o.Vel = api.V{X: arm, Y: arm} }},
			{"Vel -64", func(o *api.Order) { o.Vel = api.V{X: -arm, Y: -arm} }},
			{"Len 0", func(o *api.Order) { o.Len = 0 }},
			{"Len Far", func(o *api.Order) { o.Len = api.Far }},
		},
		"Push": {
			{"ID 1", func(o *api.Order) { o.ID = 1 }},
			{"Vel Great", func(o *api.Order) { o.Vel = api.V{X: order.Great, Y: order.Great} }},
			{"Vel -Great", func(o *api.Order) { o.Vel = api.V{X: -order.Great, Y: -order.Great} }},
			{"Spin Great", func(o *api.Order) { o.Spin = order.Great }},
			{"Spin -Great", func(o *api.Order) { o.Spin = -order.Great }},
			{"nothing", func(o *api.Order) { o.Vel, o.Spin = api.V{}, 0 }},
		},
		"Pull": {
			{"Vel Fast", func(o *api.Order) { o.Vel = api.V{X: api.Fast, Y: api.Fast} }},
			{"Vel -Fast", func(o *api.Order) { o.Vel = api.V{X: -api.Fast, Y: -api.Fast} }},
			{"nothing", func(o *api.Order) { o.Vel = api.V{} }},
		},
	}
}

// faults are changes of orders to what they may not be.
func faults() map[string][]change[api.Order] {
	return map[string][]change[api.Order]{
		"AddBody": {
			{"Pos.X beyond Far", func(o *api.Order) { o.Pos.X = api.Far + 1 }},
			{"Pos.X below -Far", func(o *api.Order) { o.Pos.X = -api.Far - 1 }},
			{"Pos.Y beyond Far", func(o *api.Order) { o.Pos.Y = api.Far + 1 }},
			{"Pos.Y below -Far", func(o *api.Order) { o.Pos.Y = -api.Far - 1 }},
			{"Pos -2^63", func(o *api.Order) { o.Pos.Y = lowest }},
			{"Vel.X beyond Fast", func(o *api.Order) { o.Vel.X = api.Fast + 1 }},
			{"Vel.X below -Fast", func(o *api.Order) { o.Vel.X = -api.Fast - 1 }},
			{"Vel.Y beyond Fast", func(o *api.Order) { o.Vel.Y = api.Fast + 1 }},
			{"Vel.Y below -Fast", func(o *api.Order) { o.Vel.Y = -api.Fast - 1 }},
			{"Angle -1", func(o *api.Order) { o.Angle = -1 }},
			{"Angle One", func(o *api.Order) { o.Angle = api.One }},
			{"Spin beyond Whirl", func(o *api.Order) { o.Spin = api.Whirl + 1 }},
			{"Spin below -Whirl", func(o *api.Order) { o.Spin = -api.Whirl - 1 }},
			{"Density -1", func(o *api.Order) { o.Density = -1 }},
			{"Density beyond Heavy", func(o *api.Order) { o.Density = world.Heavy + 1 }},
			{"static, with a velocity", func(o *api.Order) { o.Density, o.Vel, o.Spin = 0, api.V{Y: 1}, 0 }},
			{"static, with a spin", func(o *api.Order) { o.Density, o.Vel, o.Spin = 0, api.V{}, 1 }},
			{"no shape", func(o *api.Order) { o.Shape = api.Shape{} }},
			{"a shape of kind 3", func(o *api.Order) { o.Shape = api.Shape{Kind: 3} }},
			{"a shape of kind 255", func(o *api.Order) { o.Shape = api.Shape{Kind: 255} }},
			{"a disc that is too small", func(o *api.Order) { o.Shape = api.Shape{Kind: 1, R: shape.Small - 1} }},
			{"a disc that is too great", func(o *api.Order) { o.Shape = api.Shape{Kind: 1, R: shape.Great + 1} }},
			{"a disc of radius -1", func(o *api.Order) { o.Shape = api.Shape{Kind: 1, R: -api.One} }},
			{"no corners", func(o *api.Order) { o.Shape.P = nil }},
			{"1 corner", func(o *api.Order) { o.Shape.P = o.Shape.P[:1] }},
			{"2 corners", func(o *api.Order) { o.Shape.P = o.Shape.P[:2] }},
			{"9 corners", func(o *api.Order) { o.Shape.P = append(slices.Clone(round(8).P), at(2, -2)) }},
			{"255 corners", func(o *api.Order) { o.Shape.P = make([]api.V, 255) }},
			{"corners in a line", func(o *api.Order) { o.Shape.P = []api.V{at(0, 0), at(1, 0), at(2, 0), at(0, 2)} }},
			{"corners that go round to the right", func(o *api.Order) { o.Shape = turned(square()) }},
			{"a corner beyond Great", func(o *api.Order) { o.Shape = shape.Box(shape.Great, shape.Great+1) }},
		},
		"RemoveBody": {
			{"ID 0", func(o *api.Order) { o.ID = 0 }},
			{"ID -1", func(o *api.Order) { o.ID = -1 }},
			{"ID -2^63", func(o *api.Order) { o.ID = math.MinInt }},
		},
		"AddJoint": {
			{"A 0", func(o *api.Order) { o.A = 0 }},
			{"A -1", func(o *api.Order) { o.A = -1 }},
			{"B 0", func(o *api.Order) { o.B = 0 }},
			{"B -1", func(o *api.Order) { o.B = -1 }},
			{"A and B alike", func(o *api.Order) { o.A = o.B }},
			{"Pos.X beyond 64", func(o *api.Order) { o.Pos.X = arm + 1 }},
			{"Pos.Y below -64", func(o *api.Order) { o.Pos.Y = -arm - 1 }},
			{"Vel.X below -64", func(o *api.Order) { o.Vel.X = -arm - 1 }},
			{"Vel.Y beyond 64", func(o *api.Order) { o.Vel.Y = arm + 1 }},
			{"Len -1", func(o *api.Order) { o.Len = -1 }},
			{"Len beyond Far", func(o *api.Order) { o.Len = api.Far + 1 }},
		},
		"Push": {
			{"ID 0", func(o *api.Order) { o.ID = 0 }},
			{"ID -1", func(o *api.Order) { o.ID = -1 }},
			{"Vel.X beyond Great", func(o *api.Order) { o.Vel.X = order.Great + 1 }},
			{"Vel.Y below -Great", func(o *api.Order) { o.Vel.Y = -order.Great - 1 }},
			{"Spin beyond Great", func(o *api.Order) { o.Spin = order.Great + 1 }},
			{"Spin -2^63", func(o *api.Order) { o.Spin = lowest }},
		},
		"Pull": {
			{"Vel.X beyond Fast", func(o *api.Order) { o.Vel.X = api.Fast + 1 }},
			{"Vel.X below -Fast", func(o *api.Order) { o.Vel.X = -api.Fast - 1 }},
			{"Vel.Y beyond Fast", func(o *api.Order) { o.Vel.Y = api.Fast + 1 }},
			{"Vel.Y below -Fast", func(o *api.Order) { o.Vel.Y = -api.Fast - 1 }},
		},
	}
}

// starts returns orders of the kinds that changes are told by.
func starts(kind string) []api.Order {
	switch kind {
	case "AddBody":
		return []api.Order{addBody()}
	case "RemoveBody":
		return []api.Order{removeBody(), removeJoint()}
	case "AddJoint":
		return []api.Order{addJoint()}
	case "Push":
		return []api.Order{push()}
	}
	return []api.Order{pull()}
}

func TestBatchEdges(t *testing.T) {
	for kind, changes := range edges() {
		for _, c := range changes {
			for _, start := range starts(kind) {
				o := c.of(start)
				if !order.Right(o) {
					t.Fatalf("%s, %s: it isn't valid", kind, c.name)
				}
				for _, l := range [][]api.Order{{o}, {pull(), o}, {o, push()}, {addBall(), o, addBody()}} {
					holdsBatch(t, kind+", "+c.name, l, plainBatch(l))
				}
			}
		}
	}
}

func TestBatchFaults(t *testing.T) {
	for kind, changes := range faults() {
		for _, c := range changes {
			for _, start := range starts(kind) {
				o := c.of(start)
				if order.Right(o) {
					t.Fatalf("%s, %s: it is valid", kind, c.name)
				}
				for _, l := range [][]api.Order{{o}, {pull(), o}, {o, push()}, {addBall(), o, addBody()}, {o, o}} {
					noBatch(t, kind+", "+c.name, plainBatch(l))
				}
			}
		}
	}
}

// Kinds that no order and no shape has, whatever follows.
func TestOtherKinds(t *testing.T) {
	for kind := range 256 {
		if kind < 1 || kind > 6 {
			for n := range 60 {
				noBatch(t, fmt.Sprintf("an order of kind %d", kind), slices.Concat([]byte{1, 0, byte(kind)}, make([]byte, n)))
			}
			noBatch(t, fmt.Sprintf("an order of kind %d between others", kind), slices.Concat([]byte{3, 0}, plainOrder(pull()), []byte{byte(kind)}, plainOrder(pull())))
		}
		if kind != 1 && kind != 2 {
			b := plainBatch([]api.Order{{Kind: 1}})
			b = b[:len(b)-1]
			for n := range 60 {
				noBatch(t, fmt.Sprintf("a shape of kind %d", kind), slices.Concat(b, []byte{byte(kind)}, make([]byte, n)))
			}
			noBatch(t, fmt.Sprintf("a shape of kind %d with a radius", kind), slices.Concat(b, []byte{byte(kind)}, eight(api.One)))
			noBatch(t, fmt.Sprintf("a shape of kind %d with corners", kind), slices.Concat(b, []byte{byte(kind)}, plainShape(square())[1:]))
		}
	}
}

// The number of corners isn't that of the corners that follow.
func TestOtherNumbersOfCorners(t *testing.T) {
	for size := 3; size <= 8; size++ {
		l := []api.Order{{Kind: 1, Shape: round(size)}}
		b := plainBatch(l)
		holdsBatch(t, "a polygon", l, b)
		i := len(b) - 16*size - 1
		for n := range 256 {
			if n != size {
				noBatch(t, fmt.Sprintf("%d corners told of as %d", size, n), slices.Concat(b[:i], []byte{byte(n)}, b[i+1:]))
			}
		}
	}
}

// The longest kinds of orders don't lend bytes to the shorter ones: the bytes of
// one kind are no order of another one.
func TestKindsAreNotMixedUp(t *testing.T) {
	for _, o := range orders() {
		b := plainBatch([]api.Order{o})
		for kind := 1; kind <= 6; kind++ {
			b[2] = byte(kind)
			want, ok := plainReadBatch(b)
			if got, e := codec.ReadBatch(b); (e == api.OK) != ok || !sameBatch(got, want) {
				t.Errorf("ReadBatch(%x) = %+v, %d, want %+v, %v", b, got, e, want, ok)
			}
		}
	}
}

func TestBatchMemory(t *testing.T) {
	l := append(orders(), orders()...)
	kept := copyBatch(l)
	first, second := codec.Batch(l), codec.Batch(l)
	want := plainBatch(l)
	for i := range first {
		first[i] ^= 0xff
	}
	_ = append(first, 1, 2, 3)
	if string(second) != string(want) || string(codec.Batch(l)) != string(want) {
		t.Error("two encodings share memory")
	}
	if !sameBatch(l, kept) {
		t.Errorf("Batch has changed its orders: %+v", l)
	}
	got, _ := codec.ReadBatch(second)
	again, _ := codec.ReadBatch(second)
	if string(second) != string(want) {
		t.Errorf("ReadBatch has changed its bytes: %x", second)
	}
	clear(second)
	if !sameBatch(got, kept) {
		t.Errorf("the batch changes with its bytes: %+v", got)
	}
	for i := range got {
		// Neither what is in the corners' slices nor what is behind them is another one's.
		clear(got[i].Shape.P)
		_ = append(got[i].Shape.P, at(7, 7), at(8, 8), at(9, 9))
		got[i].Shape = kept[i].Shape
		if !sameBatch(got, kept) {
			t.Fatalf("the corners of order %d share memory with others: %+v", i, got)
		}
	}
	_ = append(got, pull(), pull())
	clear(got)
	if !sameBatch(again, kept) {
		t.Errorf("two batches share memory: %+v", again)
	}
}

// What lies behind the bytes and the orders that are handed in isn't touched,
// and doesn't matter.
func TestBatchMemoryBehind(t *testing.T) {
	b := append(plainBatch([]api.Order{pull()}), plainBatch([]api.Order{push()})...)
	kept := slices.Clone(b)
	if got, e := codec.ReadBatch(b[:19]); e != api.OK || !sameBatch(got, []api.Order{pull()}) {
		t.Errorf("ReadBatch of the first bytes = %+v, %d", got, e)
	}
	noBatch(t, "bytes that go on elsewhere", b[:18])
	l := orders()
	codec.Batch(l[:3])
	if !sameBatch(l, orders()) || string(b) != string(kept) {
		t.Error("something has changed behind what was handed in")
	}
}

// The document holds invalid batches only to P0: the calls end, and don't panic.
func TestBatchOfInvalidOrders(t *testing.T) {
	for _, n := range []int{math.MinInt, -1, 0, 7, 300, math.MaxInt} {
		for _, kind := range []int{n, 1, 2, 3, 4, 5, 6} {
			o := api.Order{Kind: kind, ID: n, A: n, B: n, Pos: at(n, n), Len: api.F(n)}
			for _, o.Shape = range []api.Shape{{}, {Kind: n}, {Kind: 1, P: make([]api.V, 5)}, {Kind: 2, R: 9}, {Kind: 2, P: make([]api.V, 1000)}} {
				for _, size := range []int{1, 2, 65, 300} {
					codec.Batch(slices.Repeat([]api.Order{o}, size))
				}
			}
		}
	}
	codec.Batch(make([]api.Order, 70000))
}
