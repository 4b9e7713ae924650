package codec_test

import (
	"encoding/binary"
	"encoding/hex"
	"fmt"
	"slices"
	"strings"
	"testing"

	"bagatelle/api"
	"bagatelle/codec"
	"bagatelle/fix"
	"bagatelle/order"
	"bagatelle/shape"
	"bagatelle/world"
)

const (
	// lowest is -2^63, the only api.F below Least.
	lowest api.F = -1 << 63
	// last is the greatest Tick, NextBody and NextJoint.
	last = 1 << 62
	arm  = 64 * api.One
	half = api.One / 2
)

func at(x, y int) api.V {
	return api.V{X: fix.Of(x), Y: fix.Of(y)}
}

func disc() api.Shape {
	return api.Shape{Kind: api.Circle, R: api.One}
}

func square() api.Shape {
	return shape.Box(api.One, api.One)
}

// round returns a polygon of n corners, from 3 to 8.
func round(n int) api.Shape {
	p := []api.V{at(3, -1), at(3, 1), at(1, 3), at(-1, 3), at(-3, 1), at(-3, -1), at(-1, -3), at(1, -3)}
	return api.Shape{Kind: api.Poly, P: p[:n]}
}

// turned returns a shape that goes round to the right.
func turned(s api.Shape) api.Shape {
	s.P = slices.Clone(s.P)
	slices.Reverse(s.P)
	return s
}

// bytesOf returns the bytes that the text gives in base 16, with blanks anywhere.
func bytesOf(text string) []byte {
	b, err := hex.DecodeString(strings.Join(strings.Fields(text), ""))
	if err != nil {
		panic(err)
	}
	return b
}

// equal reports whether both are told alike: an empty slice like a nil one.
func equal(a, b any) bool {
	return fmt.Sprintf("%+v", a) == fmt.Sprintf("%+v", b)
}

// sameBatch reports whether both have the same orders.
func sameBatch(a, b []api.Order) bool {
	return slices.EqualFunc(a, b, order.Same)
}

func copyBatch(l []api.Order) []api.Order {
	l = slices.Clone(l)
	for i := range l {
		l[i].Shape = shape.Copy(l[i].Shape)
	}
	return l
}

// num returns the lowest n bytes of x, the lowest one first.
func num(n, x int) []byte {
	return binary.LittleEndian.AppendUint64(nil, uint64(x))[:n]
}

// eight returns each number in eight bytes.
func eight(l ...api.F) []byte {
	var b []byte
	for _, x := range l {
		b = append(b, num(8, int(x))...)
	}
	return b
}

// The following functions encode by the chapter's words, valid or not.

func plainShape(s api.Shape) []byte {
	b := num(1, s.Kind)
	if s.Kind == 1 {
		b = append(b, eight(s.R)...)
	}
	if s.Kind == 2 {
		b = append(b, num(1, len(s.P))...)
		for _, corner := range s.P {
			b = append(b, eight(corner.X, corner.Y)...)
		}
	}
	return b
}

func plainOrder(o api.Order) []byte {
	kind, id := num(1, o.Kind), num(8, o.ID)
	pos, vel := eight(o.Pos.X, o.Pos.Y), eight(o.Vel.X, o.Vel.Y)
	switch o.Kind {
	case 1:
		return slices.Concat(kind, pos, vel, eight(o.Angle, o.Spin, o.Density), plainShape(o.Shape))
	case 2, 4:
		return slices.Concat(kind, id)
	case 3:
		return slices.Concat(kind, num(8, o.A), num(8, o.B), pos, vel, eight(o.Len))
	case 5:
		return slices.Concat(kind, id, vel, eight(o.Spin))
	case 6:
		return slices.Concat(kind, vel)
	}
	return kind
}

func plainBatch(l []api.Order) []byte {
	b := num(2, len(l))
	for _, o := range l {
		b = append(b, plainOrder(o)...)
	}
	return b
}

func plainBody(b api.Body) []byte {
	return slices.Concat(num(8, b.ID), eight(b.Pos.X, b.Pos.Y, b.Vel.X, b.Vel.Y, b.Angle, b.Spin, b.Density), plainShape(b.Shape))
}

func plainWorld(w api.World) []byte {
	b := slices.Concat(num(8, w.Tick), num(8, w.NextBody), num(8, w.NextJoint), eight(w.Gravity.X, w.Gravity.Y))
	b = append(b, num(2, len(w.Bodies))...)
	for _, body := range w.Bodies {
		b = append(b, plainBody(body)...)
	}
	b = append(b, num(2, len(w.Joints))...)
	for _, j := range w.Joints {
		b = append(b, slices.Concat(num(8, j.ID), num(8, j.A), num(8, j.B), eight(j.At.X, j.At.Y, j.To.X, j.To.Y, j.Len))...)
	}
	b = append(b, num(4, len(w.Contacts))...)
	for _, c := range w.Contacts {
		b = append(b, slices.Concat(num(8, c.A), num(8, c.B), num(8, c.Key), eight(c.N, c.T))...)
	}
	return b
}

// A cursor goes through bytes. It is short once they weren't enough.
type cursor struct {
	b     []byte
	short bool
}

func (c *cursor) num(n int) int {
	if c.short || len(c.b) < n {
		c.short = true
		return 0
	}
	var x uint64
	for i := n - 1; i >= 0; i-- {
		x = x<<8 | uint64(c.b[i])
	}
	c.b = c.b[n:]
	return int(x)
}

func (c *cursor) f() api.F { return api.F(c.num(8)) }

func (c *cursor) v() api.V {
	x := c.f()
	return api.V{X: x, Y: c.f()}
}

func (c *cursor) shape() api.Shape {
	s := api.Shape{Kind: c.num(1)}
	if s.Kind == 1 {
		s.R = c.f()
	}
	if s.Kind == 2 {
		for range c.num(1) {
			s.P = append(s.P, c.v())
		}
	}
	return s
}

func (c *cursor) order() api.Order {
	o := api.Order{Kind: c.num(1)}
	switch o.Kind {
	case 1:
		o.Pos = c.v()
		o.Vel = c.v()
		o.Angle = c.f()
		o.Spin = c.f()
		o.Density = c.f()
		o.Shape = c.shape()
	case 2, 4:
		o.ID = c.num(8)
	case 3:
		o.A = c.num(8)
		o.B = c.num(8)
		o.Pos = c.v()
		o.Vel = c.v()
		o.Len = c.f()
	case 5:
		o.ID = c.num(8)
		o.Vel = c.v()
		o.Spin = c.f()
	case 6:
		o.Vel = c.v()
	}
	return o
}

// plainReadBatch reads by the chapter's words.
func plainReadBatch(b []byte) ([]api.Order, bool) {
	c := &cursor{b: b}
	var l []api.Order
	for range c.num(2) {
		o := c.order()
		if c.short || !order.Right(o) {
			return nil, false
		}
		l = append(l, o)
	}
	if c.short || len(c.b) > 0 || len(l) > 64 {
		return nil, false
	}
	return l, true
}

// plainReadWorld reads by the chapter's words.
func plainReadWorld(b []byte) (api.World, bool) {
	c := &cursor{b: b}
	w := api.World{Tick: c.num(8)}
	w.NextBody = c.num(8)
	w.NextJoint = c.num(8)
	w.Gravity = c.v()
	for n := c.num(2); n > 0 && !c.short; n-- {
		body := api.Body{ID: c.num(8)}
		body.Pos = c.v()
		body.Vel = c.v()
		body.Angle = c.f()
		body.Spin = c.f()
		body.Density = c.f()
		body.Shape = c.shape()
		w.Bodies = append(w.Bodies, body)
	}
	for n := c.num(2); n > 0 && !c.short; n-- {
		j := api.Joint{ID: c.num(8)}
		j.A = c.num(8)
		j.B = c.num(8)
		j.At = c.v()
		j.To = c.v()
		j.Len = c.f()
		w.Joints = append(w.Joints, j)
	}
	for n := c.num(4); n > 0 && !c.short; n-- {
		k := api.Contact{A: c.num(8)}
		k.B = c.num(8)
		k.Key = c.num(8)
		k.N = c.f()
		k.T = c.f()
		w.Contacts = append(w.Contacts, k)
	}
	if c.short || len(c.b) > 0 || !world.Right(w) {
		return api.World{}, false
	}
	return w, true
}

// holdsBatch reports an error if l, which is valid, hasn't the encoding b, or
// isn't restored from it.
func holdsBatch(t *testing.T, what string, l []api.Order, b []byte) {
	t.Helper()
	if got := codec.Batch(l); string(got) != string(b) {
		t.Errorf("%s: Batch(%+v) = %x, want %x", what, l, got, b)
	}
	if got, e := codec.ReadBatch(b); e != api.OK || !sameBatch(got, l) {
		t.Errorf("%s: ReadBatch(%x) = %+v, %d, want %+v", what, b, got, e, l)
	}
}

// noBatch reports an error if b is read as a batch.
func noBatch(t *testing.T, what string, b []byte) {
	t.Helper()
	if got, e := codec.ReadBatch(b); e != api.ErrForm || len(got) != 0 {
		t.Errorf("%s: ReadBatch(%x) = %+v, %d, want ErrForm", what, b, got, e)
	}
}

// holdsWorld reports an error if w, which is valid, hasn't the encoding b, or
// isn't restored from it.
func holdsWorld(t *testing.T, what string, w api.World, b []byte) {
	t.Helper()
	if got := codec.World(w); string(got) != string(b) {
		t.Errorf("%s: World(%+v) = %x, want %x", what, w, got, b)
	}
	if got, e := codec.ReadWorld(b); e != api.OK || !world.Same(got, w) {
		t.Errorf("%s: ReadWorld(%x) = %+v, %d, want %+v", what, b, got, e, w)
	}
}

// noWorld reports an error if b is read as a world.
func noWorld(t *testing.T, what string, b []byte) {
	t.Helper()
	if got, e := codec.ReadWorld(b); e != api.ErrForm || !equal(got, api.World{}) {
		t.Errorf("%s: ReadWorld(%x) = %+v, %d, want ErrForm", what, b, got, e)
	}
}

// A change is one thing that is done to a T, and what it is called.
type change[T any] struct {
	name string
	do   func(*T)
}

// of returns start with the change.
func (c change[T]) of(start T) T {
	c.do(&start)
	return start
}

// noise returns a function that returns numbers from 0 up to below n, always
// the same.
func noise() func(n int) int {
	state := uint64(88172645463325252)
	return func(n int) int {
		state ^= state << 13
		state ^= state >> 7
		state ^= state << 17
		return int(state>>1) % n
	}
}

// pick returns one of l.
func pick[T any](next func(n int) int, l ...T) T {
	return l[next(len(l))]
}

// upTo returns a number from -limit to limit, sometimes one of its ends.
func upTo(next func(n int) int, limit api.F) api.F {
	return pick(next, 0, 1, -1, limit, -limit, api.F(next(int(limit))), -api.F(next(int(limit))))
}

func anyV(next func(n int) int, limit api.F) api.V {
	return api.V{X: upTo(next, limit), Y: upTo(next, limit)}
}
