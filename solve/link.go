package solve

import (
	"bagatelle/api"
	"bagatelle/fix"
	"bagatelle/mass"
	"bagatelle/vec"
	"bagatelle/world"
)

// A crowd is bodies and the mass of each one.
type crowd struct {
	bodies []api.Body
	masses []mass.Mass
}

func weighed(bodies []api.Body) crowd {
	c := crowd{bodies: bodies}
	for _, b := range bodies {
		c.masses = append(c.masses, mass.Of(b))
	}
	return c
}

// copied returns bodies in memory of their own, corners included.
func copied(bodies []api.Body) []api.Body {
	return world.Copy(api.World{Bodies: bodies}).Bodies
}

// A link is where two bodies push each other, at the offsets ra and rb from
// their positions.
type link struct {
	a, b         *api.Body
	massA, massB mass.Mass
	ra, rb       api.V
}

// link returns the link of the bodies with these indices, or false if one of
// them is no index: no call may panic, whatever row or tie it is given.
func (c crowd) link(a, b int, ra, rb api.V) (link, bool) {
	if !exist(c.bodies, a, b) {
		return link{}, false
	}
	return link{a: &c.bodies[a], b: &c.bodies[b], massA: c.masses[a], massB: c.masses[b], ra: ra, rb: rb}, true
}

// exist reports whether a and b are indices of bodies.
func exist(bodies []api.Body, a, b int) bool {
	return min(a, b) >= 0 && max(a, b) < len(bodies)
}

// apply applies the impulse p: b is pushed by it, and a the other way.
func (l link) apply(p api.V) {
	l.a.Vel = vec.Sub(l.a.Vel, vec.Scale(p, l.massA.Move))
	l.a.Spin = fix.Sub(l.a.Spin, fix.Mul(l.massA.Spin, vec.Cross(l.ra, p)))
	l.b.Vel = vec.Add(l.b.Vel, vec.Scale(p, l.massB.Move))
	l.b.Spin = fix.Add(l.b.Spin, fix.Mul(l.massB.Spin, vec.Cross(l.rb, p)))
}

// speed returns how fast b leaves a in the direction n: the relative velocity
// along it.
func (l link) speed(n api.V) api.F {
	a := vec.Add(l.a.Vel, vec.Spun(l.a.Spin, l.ra))
	b := vec.Add(l.b.Vel, vec.Spun(l.b.Spin, l.rb))
	return vec.Dot(vec.Sub(b, a), n)
}

// effective returns the effective mass along n: the impulse that changes the
// speed by one. It is 0 if no impulse changes it.
func (l link) effective(n api.V) api.F {
	compliance := fix.Sum(l.massA.Move, l.massB.Move, yields(l.massA, l.ra, n), yields(l.massB, l.rb, n))
	if compliance <= 0 {
		return 0
	}
	return fix.Div(api.One, compliance)
}

// yields returns the part of the compliance along n that comes from the spin of
// a body, pushed at r.
func yields(m mass.Mass, r, n api.V) api.F {
	arm := vec.Cross(r, n)
	return fix.Mul(m.Spin, fix.Mul(arm, arm))
}
