package sweep_test

import (
	"slices"
	"testing"

	"bagatelle/api"
	"bagatelle/box"
	"bagatelle/fix"
	"bagatelle/shape"
	"bagatelle/sweep"
)

// lowest is -2^63, which counts as Least.
const lowest api.F = -1 << 63

// units returns the Rect of these units.
func units(lowX, lowY, highX, highY api.F) box.Rect {
	return box.Rect{Lo: api.V{X: lowX, Y: lowY}, Hi: api.V{X: highX, Y: highY}}
}

// wholes returns the Rect of these whole numbers.
func wholes(lowX, lowY, highX, highY int) box.Rect {
	return units(fix.Of(lowX), fix.Of(lowY), fix.Of(highX), fix.Of(highY))
}

// flipped returns a with its components exchanged.
func flipped(a box.Rect) box.Rect {
	return units(a.Lo.Y, a.Lo.X, a.Hi.Y, a.Hi.X)
}

func moving(id int, a box.Rect) sweep.Item {
	return sweep.Item{ID: id, Rect: a}
}

func still(id int, a box.Rect) sweep.Item {
	return sweep.Item{ID: id, Rect: a, Still: true}
}

// numbered returns items that move, with the IDs 1, 2, 3 and so on.
func numbered(rects ...box.Rect) []sweep.Item {
	var l []sweep.Item
	for i, a := range rects {
		l = append(l, moving(i+1, a))
	}
	return l
}

// noise returns a function that returns numbers from 0 up to below n, always
// the same.
func noise() func(n int) int {
	state := uint64(88172645463325252)
	return func(n int) int {
		state ^= state << 13
		state ^= state >> 7
		state ^= state << 17
		return int(state>>1) % n
	}
}

// atMost reports whether a is at most b, where -2^63 counts as Least.
func atMost(a, b api.F) bool {
	return max(a, api.Least) <= max(b, api.Least)
}

// meet is the chapter's condition of Meet (layer 6), component by component.
func meet(a, b box.Rect) bool {
	return atMost(a.Lo.X, b.Hi.X) && atMost(b.Lo.X, a.Hi.X) && atMost(a.Lo.Y, b.Hi.Y) && atMost(b.Lo.Y, a.Hi.Y)
}

// plain is the chapter's answer: each item against each one that follows it.
func plain(l []sweep.Item) [][2]int {
	var pairs [][2]int
	for i, a := range l {
		for _, b := range l[i+1:] {
			switch {
			case a.Still && b.Still || !meet(a.Rect, b.Rect):
			case a.ID < b.ID:
				pairs = insert(pairs, [2]int{a.ID, b.ID})
			default:
				pairs = insert(pairs, [2]int{b.ID, a.ID})
			}
		}
	}
	return pairs
}

// insert puts p into its place in ascending pairs.
func insert(pairs [][2]int, p [2]int) [][2]int {
	at := len(pairs)
	for at > 0 && (p[0] < pairs[at-1][0] || p[0] == pairs[at-1][0] && p[1] < pairs[at-1][1]) {
		at--
	}
	return slices.Insert(pairs, at, p)
}

// check calls Pairs, and reports what isn't as wanted, or if l was changed.
func check(t *testing.T, what string, l []sweep.Item, want [][2]int) {
	t.Helper()
	before := slices.Clone(l)
	if got := sweep.Pairs(l); !slices.Equal(got, want) {
		t.Errorf("%s: Pairs(%v) = %v, want %v", what, before, got, want)
	}
	if !slices.Equal(l, before) {
		t.Errorf("%s: Pairs(%v) changed its argument to %v", what, before, l)
	}
}

// orders calls do with l in each order of its elements.
func orders[E any](l []E, do func([]E)) {
	rest := slices.Clone(l)
	var place func(n int)
	place = func(n int) {
		if n == len(rest) {
			do(slices.Clone(rest))
			return
		}
		for i := n; i < len(rest); i++ {
			rest[n], rest[i] = rest[i], rest[n]
			place(n + 1)
			rest[n], rest[i] = rest[i], rest[n]
		}
	}
	place(0)
}

// shuffled returns l in some other order.
func shuffled(l []sweep.Item, below func(n int) int) []sweep.Item {
	other := slices.Clone(l)
	for i := range other {
		j := i + below(len(other)-i)
		other[i], other[j] = other[j], other[i]
	}
	return other
}

func TestItem(t *testing.T) {
	i := sweep.Item{ID: 7, Rect: wholes(1, 2, 3, 4), Still: true}
	var id int = i.ID
	var rect box.Rect = i.Rect
	var stands bool = i.Still
	if id != 7 || rect != wholes(1, 2, 3, 4) || !stands || (sweep.Item{}).Still {
		t.Errorf("an Item is %v", i)
	}
}

func TestStill(t *testing.T) {
	a, b := wholes(0, 0, 2, 2), wholes(1, 1, 3, 3)
	far := wholes(9, 9, 10, 10)
	one := [][2]int{{1, 2}}
	for _, c := range []struct {
		what string
		l    []sweep.Item
		want [][2]int
	}{
		{"the document's example", []sweep.Item{still(1, a), moving(2, b)}, one},
		{"the second one still", []sweep.Item{moving(1, a), still(2, b)}, one},
		{"none still", []sweep.Item{moving(1, a), moving(2, b)}, one},
		{"both still", []sweep.Item{still(1, a), still(2, b)}, nil},
		{"both still, at one place", []sweep.Item{still(1, a), still(2, a)}, nil},
		{"one still, but far", []sweep.Item{still(1, a), moving(2, far)}, nil},
		{"none still, but far", []sweep.Item{moving(1, a), moving(2, far)}, nil},
		{"one moves among still ones", []sweep.Item{still(1, a), still(2, a), moving(3, b), still(4, b), still(5, b)}, [][2]int{{1, 3}, {2, 3}, {3, 4}, {3, 5}}},
		{"one stands among moving ones", []sweep.Item{moving(1, a), still(2, b), moving(3, a)}, [][2]int{{1, 2}, {1, 3}, {2, 3}}},
	} {
		orders(c.l, func(l []sweep.Item) { check(t, c.what, l, c.want) })
	}
}

func TestBorders(t *testing.T) {
	a := wholes(-1, -1, 1, 1)
	one := [][2]int{{1, 2}}
	for _, c := range []struct {
		what string
		b    box.Rect
		want [][2]int
	}{
		{"the same", a, one},
		{"within", wholes(0, 0, 0, 0), one},
		{"around", wholes(-5, -5, 5, 5), one},
		{"overlapping at a corner", wholes(0, 0, 2, 2), one},
		{"a cross", wholes(-3, 0, 3, 0), one},
		{"a border in common", wholes(1, -1, 3, 1), one},
		{"a part of a border in common", wholes(1, 0, 3, 9), one},
		{"a corner in common above", wholes(1, 1, 2, 2), one},
		{"a corner in common below", wholes(1, -4, 2, -1), one},
		{"a point on the border", wholes(1, 0, 1, 0), one},
		{"a point at the corner", wholes(1, 1, 1, 1), one},
		{"one unit beside", units(api.One+1, -api.One, 2*api.One, api.One), nil},
		{"one unit beside the corner", units(api.One+1, api.One, 2*api.One, 2*api.One), nil},
		{"one unit above the corner", units(api.One, api.One+1, 2*api.One, 2*api.One), nil},
		{"a point one unit beside", units(api.One+1, 0, api.One+1, 0), nil},
		{"above in a column", wholes(-1, 2, 1, 3), nil},
		{"far in both", wholes(5, 5, 6, 6), nil},
	} {
		for _, turned := range []struct {
			what string
			a, b box.Rect
		}{
			{c.what, a, c.b},
			{c.what + ", flipped", flipped(a), flipped(c.b)},
			{c.what + ", on the other side", mirrored(a), mirrored(c.b)},
			{c.what + ", flipped, on the other side", mirrored(flipped(a)), mirrored(flipped(c.b))},
		} {
			check(t, turned.what, []sweep.Item{moving(1, turned.a), moving(2, turned.b)}, c.want)
			check(t, turned.what, []sweep.Item{moving(2, turned.b), moving(1, turned.a)}, c.want)
			check(t, turned.what, []sweep.Item{moving(2, turned.a), still(1, turned.b)}, c.want)
		}
	}
}

// mirrored returns a on the other side of 0, 0.
func mirrored(a box.Rect) box.Rect {
	return units(-a.Hi.X, -a.Hi.Y, -a.Lo.X, -a.Lo.Y)
}

func TestOrderOfPairs(t *testing.T) {
	same := wholes(0, 0, 1, 1)
	all := func(ids ...int) []sweep.Item {
		var l []sweep.Item
		for _, id := range ids {
			l = append(l, moving(id, same))
		}
		return l
	}
	for _, c := range []struct {
		what string
		l    []sweep.Item
		want [][2]int
	}{
		{"the greater ID first", all(9, 4), [][2]int{{4, 9}}},
		{"the greater ID to the left", []sweep.Item{moving(9, wholes(0, 0, 2, 1)), moving(4, wholes(1, 0, 3, 1))}, [][2]int{{4, 9}}},
		{"the first ID, then the second one", all(3, 1, 4, 2), [][2]int{{1, 2}, {1, 3}, {1, 4}, {2, 3}, {2, 4}, {3, 4}}},
		{"as numbers, not as texts", all(2, 10, 1, 100), [][2]int{{1, 2}, {1, 10}, {1, 100}, {2, 10}, {2, 100}, {10, 100}}},
		{"the first ID counts ahead of the second one", []sweep.Item{
			moving(1, wholes(0, 0, 1, 1)), moving(8, wholes(1, 0, 2, 1)),
			moving(2, wholes(5, 0, 6, 1)), moving(3, wholes(6, 0, 7, 1)),
		}, [][2]int{{1, 8}, {2, 3}}},
		{"from the right to the left", []sweep.Item{
			moving(1, wholes(6, 0, 8, 1)), moving(2, wholes(4, 0, 6, 1)),
			moving(3, wholes(2, 0, 4, 1)), moving(4, wholes(0, 0, 2, 1)),
		}, [][2]int{{1, 2}, {2, 3}, {3, 4}}},
	} {
		orders(c.l, func(l []sweep.Item) { check(t, c.what, l, c.want) })
	}
}

// TestFurtherItems has an item that begins early and ends late, past others
// that meet none.
func TestFurtherItems(t *testing.T) {
	long := moving(1, wholes(0, 0, 100, 1))
	l := []sweep.Item{
		long, moving(2, wholes(1, 5, 2, 6)), moving(3, wholes(3, 0, 4, 1)),
		moving(4, wholes(5, -5, 6, -1)), moving(5, wholes(100, 1, 101, 2)), moving(6, wholes(101, 1, 102, 2)),
	}
	orders(l, func(l []sweep.Item) { check(t, "one long", l, [][2]int{{1, 3}, {1, 5}, {5, 6}}) })
	wall := append([]sweep.Item{still(7, wholes(0, 0, 100, 1)), still(8, wholes(50, 0, 60, 1))}, l...)
	check(t, "one long, and a wall", wall, [][2]int{{1, 3}, {1, 5}, {1, 7}, {1, 8}, {3, 7}, {5, 6}, {5, 7}})
}

// grid returns all Rects with borders from 0 up to below n, also those whose
// Lo is greater than their Hi if inverted is asked for.
func grid(n int, inverted bool) []box.Rect {
	var l []box.Rect
	for code := range n * n * n * n {
		a := wholes(code%n, code/n%n, code/n/n%n, code/n/n/n)
		if inverted || a.Lo.X <= a.Hi.X && a.Lo.Y <= a.Hi.Y {
			l = append(l, a)
		}
	}
	return l
}

func TestTwoOfAGrid(t *testing.T) {
	rects := grid(4, false)
	for _, a := range rects {
		for _, b := range rects {
			for _, l := range [][]sweep.Item{
				{moving(1, a), moving(2, b)}, {still(2, a), moving(1, b)},
				{moving(-1, a), still(-2, b)}, {still(1, a), still(2, b)},
			} {
				check(t, "two of a grid", l, plain(l))
			}
		}
	}
}

// TestThreeInARow has all borders from left to right, and from below upward,
// also those whose Lo is greater than their Hi.
func TestThreeInARow(t *testing.T) {
	const n = 4
	interval := func(code int) box.Rect { return wholes(code%n, 0, code/n, 0) }
	for code := range n * n * n * n * n * n {
		a, b, c := interval(code%(n*n)), interval(code/(n*n)%(n*n)), interval(code/(n*n*n*n))
		row := []sweep.Item{moving(3, a), still(1, b), moving(2, c)}
		check(t, "three in a row", row, plain(row))
		column := []sweep.Item{still(3, flipped(a)), moving(1, flipped(b)), still(2, flipped(c))}
		check(t, "three in a column", column, plain(column))
	}
}

// many returns n items with different IDs, on a field so wide.
func many(n, field, size int, below func(n int) int) []sweep.Item {
	var l []sweep.Item
	id := -n
	for range n {
		id += 1 + below(5)
		x, y := below(field), below(field)
		a := wholes(x, y, x+below(size), y+below(size))
		l = append(l, sweep.Item{ID: id, Rect: a, Still: below(3) == 0})
	}
	return shuffled(l, below)
}

func TestMany(t *testing.T) {
	below := noise()
	found := 0
	for _, c := range []struct{ n, field, size, times int }{
		{5, 10, 6, 500}, {12, 10, 4, 300}, {13, 10, 4, 300}, {30, 3, 3, 100}, {50, 40, 8, 100},
		{100, 1000, 30, 40}, {200, 60, 3, 20}, {60, 2, 1, 20}, {api.MaxBodies, 300, 12, 2},
	} {
		for range c.times {
			l := many(c.n, c.field, c.size, below)
			want := plain(l)
			found += len(want)
			check(t, "many items", l, want)
		}
	}
	if found < 10000 {
		t.Errorf("only %d pairs are there to be found", found)
	}
}

func TestAnyOrder(t *testing.T) {
	below := noise()
	for range 20 {
		l := many(6, 8, 5, below)
		want := plain(l)
		orders(l, func(l []sweep.Item) { check(t, "each order of six", l, want) })
	}
	for range 10 {
		l := many(80, 30, 8, below)
		want := plain(l)
		for range 20 {
			check(t, "an order of eighty", shuffled(l, below), want)
		}
		slices.Reverse(l)
		check(t, "eighty the other way round", l, want)
	}
}

// TestBoxesOfBodies has the greatest world: circles and polygons as layer 6
// sees them, the still ones in a row below.
func TestBoxesOfBodies(t *testing.T) {
	below := noise()
	shapes := []api.Shape{{Kind: api.Circle, R: api.One}, shape.Box(api.One, 2*api.One), shape.Box(3*api.One, api.One/2)}
	var l []sweep.Item
	for id := 1; id <= api.MaxBodies; id++ {
		b := api.Body{ID: id, Shape: shapes[below(3)], Angle: fix.Part(below(64), 64)}
		b.Pos = api.V{X: fix.Part(below(4000), 16), Y: fix.Part(below(1000), 16)}
		stands := id%8 == 0
		if stands {
			b.Pos.Y = 0
		}
		l = append(l, sweep.Item{ID: id, Rect: box.Of(b), Still: stands})
	}
	want := plain(l)
	check(t, "the greatest world", l, want)
	check(t, "the greatest world in another order", shuffled(l, below), want)
	if len(want) < 1000 {
		t.Errorf("only %d pairs are there to be found", len(want))
	}
}

// TestCrowd has all of them at one place, and all of them apart.
func TestCrowd(t *testing.T) {
	const n = 300
	var crowd, apart []sweep.Item
	for id := n; id >= 1; id-- {
		crowd = append(crowd, moving(id, wholes(0, 0, 1, 1)))
		apart = append(apart, moving(id, wholes(2*id, 0, 2*id+1, 1)))
	}
	pairs := sweep.Pairs(crowd)
	if len(pairs) != n*(n-1)/2 || pairs[0] != [2]int{1, 2} || pairs[n-1] != [2]int{2, 3} || pairs[len(pairs)-1] != [2]int{n - 1, n} {
		t.Errorf("a crowd of %d has %d pairs", n, len(pairs))
	}
	check(t, "a crowd", crowd, plain(crowd))
	check(t, "all apart", apart, nil)
}

func TestFew(t *testing.T) {
	check(t, "nil", nil, nil)
	check(t, "no items", []sweep.Item{}, nil)
	check(t, "one item", numbered(wholes(0, 0, 1, 1)), nil)
	check(t, "one item that stands", []sweep.Item{still(1, wholes(0, 0, 1, 1))}, nil)
	check(t, "the zero item", []sweep.Item{{}}, nil)
	check(t, "two items at 0, 0", numbered(box.Rect{}, box.Rect{}), [][2]int{{1, 2}})
}

func TestIDs(t *testing.T) {
	a := wholes(0, 0, 1, 1)
	const least, most = -1 << 63, 1<<63 - 1
	for _, c := range []struct {
		what string
		l    []sweep.Item
		want [][2]int
	}{
		{"negative IDs", []sweep.Item{moving(-1, a), moving(-2, a), moving(0, a), moving(1, a)}, [][2]int{{-2, -1}, {-2, 0}, {-2, 1}, {-1, 0}, {-1, 1}, {0, 1}}},
		{"the least and the greatest ID", []sweep.Item{moving(most, a), moving(0, a), moving(least, a)}, [][2]int{{least, 0}, {least, most}, {0, most}}},
		{"IDs next to both ends", []sweep.Item{moving(most, a), moving(most-1, a), moving(least+1, a), moving(least, a)}, [][2]int{{least, least + 1}, {least, most - 1}, {least, most}, {least + 1, most - 1}, {least + 1, most}, {most - 1, most}}},
		// Not valid: the chapter requires different IDs.
		{"equal IDs", []sweep.Item{moving(5, a), moving(5, a)}, [][2]int{{5, 5}}},
		{"equal IDs, both still", []sweep.Item{still(5, a), still(5, a)}, nil},
		{"equal IDs with others", []sweep.Item{moving(5, a), still(5, a), moving(2, a), moving(8, wholes(7, 7, 8, 8))}, [][2]int{{2, 5}, {2, 5}, {5, 5}}},
	} {
		orders(c.l, func(l []sweep.Item) { check(t, c.what, l, c.want) })
	}
}

// TestInverted has Rects whose Lo is greater than their Hi, which aren't valid:
// whether they Meet, as layer 6 has it, is all that counts.
func TestInverted(t *testing.T) {
	check(t, "both within the other", numbered(wholes(1, 1, -1, -1), wholes(-2, -2, 2, 2)), [][2]int{{1, 2}})
	check(t, "inverted and beside", numbered(wholes(5, 0, 3, 1), wholes(4, 0, 4, 1)), nil)
	check(t, "inverted twice", numbered(wholes(1, 0, 0, 0), wholes(1, 0, 0, 0)), nil)
	rects := grid(3, true)
	for _, a := range rects {
		for _, b := range rects {
			l := []sweep.Item{moving(2, a), moving(1, b)}
			want := [][2]int(nil)
			if box.Meet(a, b) {
				want = [][2]int{{1, 2}}
			}
			check(t, "two of any Rects", l, want)
		}
	}
	below := noise()
	for range 1000 {
		var l []sweep.Item
		for id := range 12 {
			l = append(l, sweep.Item{ID: id, Rect: rects[below(len(rects))], Still: below(3) == 0})
		}
		check(t, "twelve of any Rects", shuffled(l, below), plain(l))
	}
}

func TestExtremes(t *testing.T) {
	ends := []api.F{lowest, api.Least, api.Least + 1, -1, 0, 1, api.Most - 1, api.Most}
	everywhere := units(api.Least, api.Least, api.Most, api.Most)
	check(t, "all there is", numbered(everywhere, wholes(0, 0, 0, 0), everywhere), [][2]int{{1, 2}, {1, 3}, {2, 3}})
	check(t, "both ends", numbered(units(api.Least, 0, -1, 0), units(0, 0, api.Most, 0)), nil)
	check(t, "at Most", numbered(units(api.Most, 0, api.Most, 0), units(0, 0, api.Most, 0), units(0, 0, api.Most-1, 0)), [][2]int{{1, 2}, {2, 3}})
	check(t, "at Least", numbered(units(api.Least, 0, api.Least, 0), units(api.Least, 0, 0, 0), units(api.Least+1, 0, 0, 0)), [][2]int{{1, 2}, {2, 3}})
	check(t, "-2^63 counts as Least", numbered(units(lowest, 0, lowest, 0), units(api.Least, 0, 0, 0), units(api.Least+1, 0, 0, 0)), [][2]int{{1, 2}, {2, 3}})
	for _, a := range ends {
		for _, b := range ends {
			for _, c := range ends {
				for _, d := range ends {
					l := numbered(units(a, 0, b, 0), units(c, 0, d, 0), units(0, c, 0, d), units(c, a, d, b))
					check(t, "at the ends of the range", l, plain(l))
				}
			}
		}
	}
	below := noise()
	for range 3000 {
		end := func() api.F { return ends[below(len(ends))] }
		var l []sweep.Item
		for id := range 2 + below(14) {
			l = append(l, moving(id, units(end(), end(), end(), end())))
		}
		check(t, "any ends of the range", shuffled(l, below), plain(l))
	}
}

// TestMemory changes what one call returned, and what it was given, and asks
// again.
func TestMemory(t *testing.T) {
	l := numbered(wholes(4, 0, 6, 1), wholes(2, 0, 4, 1), wholes(0, 0, 2, 1))
	first := sweep.Pairs(l)
	first[0] = [2]int{77, 88}
	_ = append(first[:1], [2]int{99, 99})
	check(t, "after a change of the answer", l, [][2]int{{1, 2}, {2, 3}})
	second := sweep.Pairs(l)
	clear(l)
	if !slices.Equal(second, [][2]int{{1, 2}, {2, 3}}) {
		t.Errorf("the answer became %v when the items changed", second)
	}
}

// TestPartOfASlice hands in a part, whose neighbours must stay too.
func TestPartOfASlice(t *testing.T) {
	whole := numbered(wholes(9, 0, 9, 9), wholes(4, 0, 6, 1), wholes(2, 0, 4, 1), wholes(0, 0, 9, 9))
	before := slices.Clone(whole)
	check(t, "a part", whole[1:3], [][2]int{{2, 3}})
	if !slices.Equal(whole, before) {
		t.Errorf("Pairs of a part changed %v to %v", before, whole)
	}
}
