package turn_test

import (
	"math"
	"math/big"
	"slices"
	"testing"

	"bagatelle/api"
	"bagatelle/turn"
)

// lowest is -2^63, which counts as Least.
const lowest api.F = -1 << 63

// oneStep is a 1024th of a turn.
const oneStep api.F = 1 << 22

// wrapped returns the angle of a, by an exact division that rounds down.
func wrapped(a api.F) api.F {
	if a == lowest {
		a = api.Least
	}
	return api.F(new(big.Int).Mod(big.NewInt(int64(a)), big.NewInt(int64(api.One))).Int64())
}

// sine returns the sine of a step in the words of the chapter.
func sine(step int) api.F {
	if step <= 256 {
		return api.Sine(step)
	}
	if step <= 512 {
		return api.Sine(512 - step)
	}
	return -sine(step - 512)
}

func cosine(step int) api.F {
	if step+256 >= 1024 {
		return sine(step + 256 - 1024)
	}
	return sine(step + 256)
}

func rotation(step int) turn.Rot {
	return turn.Rot{C: cosine(step), S: sine(step)}
}

// numbers returns the ends of the range, numbers around the powers of 2 and
// around whole turns and steps, of both signs, and many of all sizes.
func numbers() []api.F {
	l := []api.F{0, api.Most, api.Least, api.Least + 1, lowest, api.Pi, -api.Pi}
	for shift := range 63 {
		power := api.F(1) << shift
		l = append(l, power, -power, power-1, 1-power, power+1, -power-1)
	}
	for turns := api.F(-3); turns <= 3; turns++ {
		for step := range api.F(1024) {
			at := turns*api.One + step*oneStep
			l = append(l, at-1, at, at+1)
		}
	}
	state := uint64(88172645463325252)
	for range 100000 {
		state ^= state << 13
		state ^= state >> 7
		state ^= state << 17
		l = append(l, api.F(state)>>(state%61))
	}
	return l
}

func TestWrap(t *testing.T) {
	for _, c := range []struct{ a, want api.F }{
		{0, 0},
		{1, 1},
		{api.One / 4, api.One / 4},
		{api.One - 1, api.One - 1},
		{api.One, 0},
		{api.One + 1, 1},
		{3 * api.One, 0},
		{3*api.One + api.One/2, api.One / 2},
		{-1, api.One - 1},
		{-api.One / 4, 3 * api.One / 4},
		{1 - api.One, 1},
		{-api.One, 0},
		{-api.One - 1, api.One - 1},
		{-3 * api.One, 0},
		{-3*api.One - api.One/4, 3 * api.One / 4},
		{api.Most, api.One - 1},
		{api.Most - api.One, api.One - 1},
		{api.Least, 1},
		{api.Least + 1, 2},
		{lowest, 1},
		{lowest + api.One, 0},
	} {
		if got := turn.Wrap(c.a); got != c.want {
			t.Errorf("Wrap(%d) = %d, want %d", c.a, got, c.want)
		}
	}
	for _, a := range numbers() {
		if got, want := turn.Wrap(a), wrapped(a); got != want {
			t.Fatalf("Wrap(%d) = %d, want %d", a, got, want)
		}
	}
}

func TestWrapOfAnAngle(t *testing.T) {
	for _, a := range numbers() {
		angle := turn.Wrap(a)
		if angle < 0 || angle >= api.One {
			t.Fatalf("Wrap(%d) = %d, which is no angle", a, angle)
		}
		if got := turn.Wrap(angle); got != angle {
			t.Fatalf("Wrap(%d) = %d, want the same", angle, got)
		}
	}
}

func TestStep(t *testing.T) {
	for _, c := range []struct {
		a    api.F
		want int
	}{
		{0, 0},
		{1, 0},
		{oneStep - 1, 0},
		{oneStep, 1},
		{2*oneStep - 1, 1},
		{api.One / 4, 256},
		{api.One/4 - 1, 255},
		{api.One / 2, 512},
		{3 * api.One / 4, 768},
		{1023*oneStep - 1, 1022},
		{1023 * oneStep, 1023},
		{api.One - 1, 1023},
		{api.One, 0},
		{5*api.One + api.One/4, 256},
		{-1, 1023},
		{-oneStep, 1023},
		{-oneStep - 1, 1022},
		{-api.One / 4, 768},
		{-api.One, 0},
		{-5*api.One - api.One/4, 768},
		{api.Most, 1023},
		{api.Least, 0},
		{lowest, 0},
	} {
		if got := turn.Step(c.a); got != c.want {
			t.Errorf("Step(%d) = %d, want %d", c.a, got, c.want)
		}
	}
	for _, a := range numbers() {
		if got, want := turn.Step(a), int(wrapped(a)/oneStep); got != want {
			t.Fatalf("Step(%d) = %d, want %d", a, got, want)
		}
	}
}

func TestOf(t *testing.T) {
	const (
		first  = 26353424   // the sine of step 1
		before = 4294886444 // the sine of step 255
	)
	for _, c := range []struct {
		step int
		want turn.Rot
	}{
		{0, turn.Rot{C: api.One, S: 0}},
		{1, turn.Rot{C: before, S: first}},
		{128, turn.Rot{C: 3037000500, S: 3037000500}},
		{255, turn.Rot{C: first, S: before}},
		{256, turn.Rot{C: 0, S: api.One}},
		{257, turn.Rot{C: -first, S: before}},
		{511, turn.Rot{C: -before, S: first}},
		{512, turn.Rot{C: -api.One, S: 0}},
		{513, turn.Rot{C: -before, S: -first}},
		{767, turn.Rot{C: -first, S: -before}},
		{768, turn.Rot{C: 0, S: -api.One}},
		{769, turn.Rot{C: first, S: -before}},
		{1023, turn.Rot{C: before, S: -first}},
	} {
		if got := turn.Of(api.F(c.step) * oneStep); got != c.want {
			t.Errorf("Of of step %d = %v, want %v", c.step, got, c.want)
		}
	}
}

func TestOfEveryStep(t *testing.T) {
	for step := range 1024 {
		low := api.F(step) * oneStep
		for _, a := range []api.F{low, low + 1, low + oneStep - 1, low + 7*api.One, low - api.One, low - 7*api.One} {
			if got, want := turn.Of(a), rotation(step); got != want {
				t.Fatalf("Of(%d), of step %d, = %v, want %v", a, step, got, want)
			}
		}
	}
	for _, a := range numbers() {
		if got, want := turn.Of(a), rotation(int(wrapped(a)/oneStep)); got != want {
			t.Fatalf("Of(%d) = %v, want %v", a, got, want)
		}
	}
}

// The rules by which the table is continued beyond its quarter must lead to
// the sines and cosines of the whole turn.
func TestOfIsCosineAndSine(t *testing.T) {
	near := func(got api.F, want float64) bool {
		return math.Abs(float64(got)-want*float64(api.One)) <= 1
	}
	for step := range 1024 {
		r := turn.Of(api.F(step) * oneStep)
		sin, cos := math.Sincos(2 * math.Pi * float64(step) / 1024)
		if !near(r.C, cos) || !near(r.S, sin) {
			t.Errorf("Of of step %d = %v, want about %f, %f", step, r, cos, sin)
		}
	}
}

func TestOfEndsOfTheRange(t *testing.T) {
	for _, c := range []struct {
		a    api.F
		step int
	}{
		{api.Most, 1023},
		{api.Least, 0},
		{lowest, 0},
	} {
		if got, want := turn.Of(c.a), rotation(c.step); got != want {
			t.Errorf("Of(%d) = %v, want %v", c.a, got, want)
		}
	}
}

func TestTabled(t *testing.T) {
	seen := map[turn.Rot]bool{}
	for step := range 1024 {
		r := rotation(step)
		if seen[r] {
			t.Errorf("the rotation %v of step %d isn't the first one", r, step)
		}
		seen[r] = true
		if !turn.Tabled(r) {
			t.Errorf("Tabled(%v), of step %d, = false", r, step)
		}
	}
}

func TestTabledOfOthers(t *testing.T) {
	for _, r := range []turn.Rot{
		{},
		{C: api.One, S: api.One},
		{C: -api.One, S: api.One},
		{C: api.One, S: 1},
		{C: api.One, S: -1},
		{C: 1, S: api.One},
		{C: 0, S: 1},
		{C: 0, S: api.One - 1},
		{C: 0, S: api.One + 1},
		{C: api.One / 2, S: api.One / 2},
		{C: 3 * api.One / 5, S: 4 * api.One / 5},
		{C: api.One, S: api.Sine(1)},
		{C: api.Sine(1), S: api.Sine(1)},
		{C: api.Most, S: 0},
		{C: 0, S: api.Most},
		{C: api.Most, S: api.Most},
		{C: api.Least, S: 0},
		{C: 0, S: api.Least},
		{C: api.Least, S: api.Least},
		{C: lowest, S: 0},
		{C: 0, S: lowest},
		{C: lowest, S: lowest},
		{C: api.Most, S: lowest},
	} {
		if turn.Tabled(r) {
			t.Errorf("Tabled(%v) = true", r)
		}
	}
}

// Each part of a pair is one of the table here, or nearly so: it's only their
// being together that decides.
func TestTabledOfMixedPairs(t *testing.T) {
	all := make([]turn.Rot, 1024)
	for step := range all {
		all[step] = rotation(step)
	}
	check := func(r turn.Rot) {
		if got, want := turn.Tabled(r), slices.Contains(all, r); got != want {
			t.Fatalf("Tabled(%v) = %t, want %t", r, got, want)
		}
	}
	for step, r := range all {
		check(turn.Rot{C: r.C + 1, S: r.S})
		check(turn.Rot{C: r.C - 1, S: r.S})
		check(turn.Rot{C: r.C, S: r.S + 1})
		check(turn.Rot{C: r.C, S: r.S - 1})
		check(turn.Rot{C: r.S, S: r.C})
		check(turn.Rot{C: -r.C, S: r.S})
		check(turn.Rot{C: r.C, S: -r.S})
		for _, on := range []int{1, 2, 255, 256, 511, 512, 513, 768, 1023} {
			other := all[(step+on)%1024]
			check(turn.Rot{C: r.C, S: other.S})
			check(turn.Rot{C: other.C, S: r.S})
		}
	}
}

func TestOfIsTabled(t *testing.T) {
	l := numbers()
	for i := 0; i < len(l); i += 100 {
		if r := turn.Of(l[i]); !turn.Tabled(r) {
			t.Fatalf("Tabled(%v), of %d, = false", r, l[i])
		}
	}
}
