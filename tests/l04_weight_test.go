package tests

import (
	"math"
	"slices"
	"testing"

	"loop.example/g03301/impl"
)

// weighed is a stone with what is known about its weight.
type weighed struct {
	name                   string
	s                      impl.Stone
	area2, moment, heights int
}

func weighedStones() []weighed {
	return []weighed{
		{"block", stone(0, 0, 4, 0, 4, 3, 0, 3), 24, 144, 108},
		{"block at negative places", stone(-7, -5, -3, -5, -3, -2, -7, -2), 24, -360, -252},
		{"block around the origin", stone(-1, -1, 1, -1, 1, 1, -1, 1), 8, 0, 0},
		{"least triangle", stone(0, 0, 1, 0, 0, 1), 1, 1, 1},
		{"triangle with a whole middle", stone(0, 0, 6, 0, 0, 3), 18, 108, 54},
		{"triangle without a whole middle", stone(0, 0, 7, -2, 3, 9), 69, 690, 483},
		{"triangle at negative places", stone(-10, -20, -9, -20, -10, -19), 1, -29, -59},
		{"triangle across the origin", stone(-4, -1, 5, 0, -2, 2), 25, -25, 25},
		{"roof with 4 corners", stone(0, 0, 6, 0, 4, 2, 2, 2), 16, 144, 40},
		{"house with 5 corners", stone(0, 0, 4, 0, 4, 2, 2, 4, 0, 2), 24, 144, 112},
		{"6 corners", stone(2, 0, 4, 0, 6, 2, 4, 4, 2, 4, 0, 2), 32, 288, 192},
		{"6 corners, not even", stone(0, 0, 3, 0, 5, 2, 5, 3, 2, 3, 0, 1), 22, 165, 99},
		{"at the greatest places", stone(59, 59, 60, 59, 60, 60), 1, 179, 178},
		{"at the least places", stone(-60, -60, -59, -60, -60, -59), 1, -179, -179},
		{"the greatest stone", stone(-60, -60, 60, -60, 60, 60, -60, 60), 28800, 0, 0},
		{"half of the greatest stone", stone(-60, -60, 60, -60, 60, 60), 14400, 864000, -864000},
		{"the other half", stone(-60, -60, 60, 60, -60, 60), 14400, -864000, 864000},
	}
}

// checkWeight compares the weights of s, and those of s from each corner on.
func checkWeight(t *testing.T, s impl.Stone, area2 int, moment int, heights int) {
	t.Helper()
	for k := range s.Corners {
		r := rotated(s, k)
		if got := impl.AreaTwice(r); got != area2 {
			t.Errorf("AreaTwice(%v) = %d, want %d", r, got, area2)
		}
		if got := impl.WeightOf(r); got != 3*area2 {
			t.Errorf("WeightOf(%v) = %d, want %d", r, got, 3*area2)
		}
		if got := impl.MomentOf(r); got != moment {
			t.Errorf("MomentOf(%v) = %d, want %d", r, got, moment)
		}
		if got := impl.HeightMoment(r); got != heights {
			t.Errorf("HeightMoment(%v) = %d, want %d", r, got, heights)
		}
	}
}

func TestWeights(t *testing.T) {
	for _, c := range weighedStones() {
		t.Run(c.name, func(t *testing.T) {
			checkWeight(t, c.s, c.area2, c.moment, c.heights)
		})
	}
}

// fanWeights cuts s into triangles at its first corner. A triangle's middle is
// a third of the sum of its corners, so three times the area gives whole sums.
func fanWeights(s impl.Stone) (area2 int, moment int, heights int) {
	a := s.Corners[0]
	for i := 1; i+1 < len(s.Corners); i++ {
		b, c := s.Corners[i], s.Corners[i+1]
		side := impl.SideOf(a, b, c)
		area2 += side
		moment += side * (a.X + b.X + c.X)
		heights += side * (a.Y + b.Y + c.Y)
	}
	return area2, moment, heights
}

// moved is s, moved by dx and dy.
func moved(s impl.Stone, dx int, dy int) impl.Stone {
	var m impl.Stone
	for _, p := range s.Corners {
		m.Corners = append(m.Corners, pt(p.X+dx, p.Y+dy))
	}
	return m
}

func TestWeightsAreThoseOfTriangles(t *testing.T) {
	for _, s := range validStones() {
		area2, moment, heights := fanWeights(s)
		checkWeight(t, s, area2, moment, heights)
	}
	for n := 3; n <= 6; n++ {
		found := 0
		everyList(n, func(list []impl.Point) {
			s := impl.Stone{Corners: list}
			if !impl.StoneOk(s) {
				return
			}
			found++
			for _, m := range []impl.Stone{s, moved(s, 58, -60), moved(s, -60, 58)} {
				area2, moment, heights := fanWeights(m)
				if impl.AreaTwice(m) != area2 || impl.WeightOf(m) != 3*area2 || impl.MomentOf(m) != moment || impl.HeightMoment(m) != heights {
					t.Fatalf("the weights of %v are not those of its triangles, %d, %d and %d", m, area2, moment, heights)
				}
			}
		})
		if found == 0 {
			t.Errorf("no stone with %d corners was tried", n)
		}
	}
}

func TestWeightsInvalid(t *testing.T) {
	for _, c := range allInvalidStones() {
		if impl.AreaTwice(c.s) != 0 || impl.WeightOf(c.s) != 0 || impl.MomentOf(c.s) != 0 || impl.HeightMoment(c.s) != 0 {
			t.Errorf("%s: a weight of %v is not 0", c.name, c.s)
		}
		for _, x := range append(validPlaces(), invalidPlaces()...) {
			if impl.IsLeftOf(c.s, x) {
				t.Errorf("%s: IsLeftOf(%v, %d) is true", c.name, c.s, x)
			}
		}
	}
}

// checkMiddle tests promise 4 for a stone that goes around once.
func checkMiddle(t *testing.T, s impl.Stone) {
	t.Helper()
	weight, moment, heights := impl.WeightOf(s), impl.MomentOf(s), impl.HeightMoment(s)
	if weight <= 0 {
		t.Fatalf("WeightOf(%v) = %d", s, weight)
	}
	for i, a := range s.Corners {
		b := s.Corners[(i+1)%len(s.Corners)]
		// This is weight times the SideOf a, b and the middle of weight.
		side := (b.X-a.X)*(heights-weight*a.Y) - (b.Y-a.Y)*(moment-weight*a.X)
		if side <= 0 {
			t.Fatalf("the middle of weight of %v is not inside, seen from the side after corner %d", s, i)
		}
	}
}

// checkMirroredMiddle tests promise 4 for the image of s, if it has one.
func checkMirroredMiddle(t *testing.T, s impl.Stone, x int) bool {
	t.Helper()
	image := impl.MirrorStone(s, x)
	if !impl.StoneOk(image) {
		return false
	}
	weight := impl.WeightOf(s)
	if impl.AreaTwice(image) != impl.AreaTwice(s) || impl.WeightOf(image) != weight || impl.HeightMoment(image) != impl.HeightMoment(s) {
		t.Fatalf("the image of %v at %d has another weight or another height", s, x)
	}
	if got, want := impl.MomentOf(image), 2*x*weight-impl.MomentOf(s); got != want {
		t.Fatalf("MomentOf(the image of %v at %d) = %d, want %d", s, x, got, want)
	}
	return true
}

// Promise 4, for stones of all kinds and for all small ones that go around once.
func TestMiddleInsideAndMirrored(t *testing.T) {
	list := validStones()
	for _, c := range weighedStones() {
		list = append(list, c.s)
	}
	mirrored := 0
	for _, s := range list {
		checkMiddle(t, s)
		for x := -impl.MaxPlace; x <= impl.MaxPlace; x++ {
			if checkMirroredMiddle(t, s, x) {
				mirrored++
			}
		}
	}
	if mirrored < len(list) {
		t.Errorf("only %d images of %d stones were tried", mirrored, len(list))
	}
	for n := 3; n <= 6; n++ {
		everyList(n, func(list []impl.Point) {
			s := impl.Stone{Corners: list}
			if impl.StoneOk(s) && rounds(list) == 1 {
				checkMiddle(t, s)
				if !checkMirroredMiddle(t, s, 1) || !checkMirroredMiddle(t, s, -29) || !checkMirroredMiddle(t, s, 30) {
					t.Fatalf("the stone %v has no image", s)
				}
			}
		})
	}
}

// A stone that is its own image has its middle of weight on the mirror.
func TestMiddleOfSymmetricStone(t *testing.T) {
	cases := []struct {
		s impl.Stone
		x int
	}{
		{stone(0, 0, 4, 0, 4, 3, 0, 3), 2},
		{stone(-9, -1, -3, -1, -6, 5), -6},
		{stone(0, 0, 6, 0, 4, 2, 2, 2), 3},
		{stone(0, 0, 4, 0, 4, 2, 2, 4, 0, 2), 2},
		{stone(2, 0, 4, 0, 6, 2, 4, 4, 2, 4, 0, 2), 3},
	}
	for _, c := range cases {
		if got, want := impl.MomentOf(c.s), c.x*impl.WeightOf(c.s); got != want {
			t.Errorf("MomentOf(%v) = %d, want %d", c.s, got, want)
		}
		if impl.IsLeftOf(c.s, c.x) || !impl.IsLeftOf(c.s, c.x+1) {
			t.Errorf("the middle of %v is not at %d", c.s, c.x)
		}
	}
}

func TestIsLeftOf(t *testing.T) {
	cases := []struct {
		name string
		s    impl.Stone
		x    int
		want bool
	}{
		{"at x", stone(0, 0, 4, 0, 4, 3, 0, 3), 2, false},
		{"one left of x", stone(0, 0, 4, 0, 4, 3, 0, 3), 3, true},
		{"one right of x", stone(0, 0, 4, 0, 4, 3, 0, 3), 1, false},
		{"a third left of x", stone(1, 0, 4, 0, 3, 5), 3, true},
		{"two thirds right of x", stone(1, 0, 4, 0, 3, 5), 2, false},
		{"two thirds left of x", stone(1, 0, 3, 0, 3, 5), 3, true},
		{"a third right of x", stone(1, 0, 3, 0, 3, 5), 2, false},
		{"a triangle at x", stone(0, 0, 6, 0, 0, 3), 2, false},
		{"a triangle one left of x", stone(0, 0, 6, 0, 0, 3), 3, true},
		{"a third left of 0", stone(-1, 0, 0, 0, 0, 1), 0, true},
		{"a third right of 0", stone(0, 0, 1, 0, 0, 1), 0, false},
		{"at 0", stone(-1, -1, 1, -1, 1, 1, -1, 1), 0, false},
		{"a third left of a negative x", stone(-5, 0, -4, 0, -4, 1), -4, true},
		{"a third right of a negative x", stone(-5, 0, -4, 0, -5, 1), -5, false},
		{"at a negative x", stone(-6, 0, -3, 0, -6, 1), -5, false},
		{"the mass is left, not the box", stone(0, 0, 2, 2, 1, 3, 0, 3), 1, true},
		{"a third left of MaxPlace", stone(59, 0, 60, 0, 60, 1), 60, true},
		{"a third left of MaxPlace, one less", stone(59, 0, 60, 0, 60, 1), 59, false},
		{"a third left of MaxPlace, one more", stone(59, 0, 60, 0, 60, 1), 61, false},
		{"at MaxPlace less 1", stone(57, 0, 60, 0, 60, 1), 59, false},
		{"a third right of -MaxPlace", stone(-60, 0, -59, 0, -60, 1), -60, false},
		{"a third right of -MaxPlace, one more", stone(-60, 0, -59, 0, -60, 1), -59, true},
		{"a third right of -MaxPlace, one less", stone(-60, 0, -59, 0, -60, 1), -61, false},
		{"at -MaxPlace and 1", stone(-60, 0, -57, 0, -60, 1), -59, false},
	}
	for _, c := range cases {
		if got := impl.IsLeftOf(c.s, c.x); got != c.want {
			t.Errorf("%s: IsLeftOf(%v, %d) = %v, want %v", c.name, c.s, c.x, got, c.want)
		}
	}
}

func TestIsLeftOfEveryPlace(t *testing.T) {
	list := validStones()
	for _, c := range weighedStones() {
		list = append(list, c.s)
	}
	for _, s := range list {
		_, moment, _ := fanWeights(s)
		low, high := impl.BoxOf(s)
		for x := -impl.MaxPlace - 2; x <= impl.MaxPlace+2; x++ {
			want := x >= -impl.MaxPlace && x <= impl.MaxPlace && moment < x*impl.WeightOf(s)
			if got := impl.IsLeftOf(s, x); got != want {
				t.Fatalf("IsLeftOf(%v, %d) = %v, want %v", s, x, got, want)
			}
		}
		if impl.IsLeftOf(s, low.X) || !impl.IsLeftOf(s, high.X) {
			t.Errorf("the middle of weight of %v is not between its ends", s)
		}
		for _, x := range append(invalidPlaces(), math.MaxInt/3, math.MinInt/3) {
			if impl.IsLeftOf(s, x) {
				t.Errorf("IsLeftOf(%v, %d) is true", s, x)
			}
		}
	}
}

func TestTotalWeight(t *testing.T) {
	block := stone(0, 0, 4, 0, 4, 3, 0, 3)
	least := stone(0, 0, 1, 0, 0, 1)
	greatest := stone(-60, -60, 60, -60, 60, 60, -60, 60)
	clockwise := stone(0, 0, 0, 3, 4, 0)
	cases := []struct {
		name string
		list []impl.Stone
		want int
	}{
		{"nil", nil, 0},
		{"no stones", []impl.Stone{}, 0},
		{"one stone", []impl.Stone{block}, 72},
		{"two stones", []impl.Stone{block, least}, 75},
		{"a stone twice", []impl.Stone{least, least}, 6},
		{"19 stones", slices.Repeat([]impl.Stone{least}, 19), 57},
		{"20 stones", slices.Repeat([]impl.Stone{least}, 20), 60},
		{"20 stones, the last one differs", append(slices.Repeat([]impl.Stone{least}, 19), block), 129},
		{"20 of the greatest stones", slices.Repeat([]impl.Stone{greatest}, 20), 1728000},
		{"21 stones", slices.Repeat([]impl.Stone{least}, 21), 0},
		{"21 stones, 20 of them invalid", append(slices.Repeat([]impl.Stone{{}}, 20), block), 0},
		{"40 stones", slices.Repeat([]impl.Stone{block}, 40), 0},
		{"an invalid stone", []impl.Stone{clockwise}, 0},
		{"an invalid stone first", []impl.Stone{clockwise, block}, 72},
		{"an invalid stone in the middle", []impl.Stone{least, {}, block}, 75},
		{"an invalid stone last", []impl.Stone{least, block, clockwise}, 75},
		{"20 stones with invalid ones", append(slices.Repeat([]impl.Stone{clockwise}, 19), block), 72},
	}
	for _, c := range cases {
		if got := impl.TotalWeight(c.list); got != c.want {
			t.Errorf("%s: TotalWeight = %d, want %d", c.name, got, c.want)
		}
	}
	for _, c := range allInvalidStones() {
		if got := impl.TotalWeight([]impl.Stone{c.s, block, c.s}); got != 72 {
			t.Errorf("%s: TotalWeight with %v beside the block = %d, want 72", c.name, c.s, got)
		}
	}
}

func TestWeightArgumentsUnchanged(t *testing.T) {
	list := validStones()
	for _, c := range allInvalidStones() {
		list = append(list, c.s)
	}
	for _, s := range list {
		// The corners and stones in the spare capacity must stay as well.
		full := append(slices.Clone(s.Corners), pt(7, 7), pt(8, 8))
		before := slices.Clone(full)
		arg := impl.Stone{Corners: full[:len(s.Corners)]}
		spare := stone(0, 0, 1, 0, 0, 1)
		stones := []impl.Stone{arg, arg, spare}
		impl.AreaTwice(arg)
		impl.WeightOf(arg)
		impl.MomentOf(arg)
		impl.HeightMoment(arg)
		impl.IsLeftOf(arg, 1)
		impl.TotalWeight(stones[:2])
		if !slices.Equal(full, before) {
			t.Errorf("the corners %v became %v", before, full)
		}
		if !sameStone(stones[0], arg) || !sameStone(stones[1], arg) || !sameStone(stones[2], spare) {
			t.Errorf("the stones %v changed", stones)
		}
	}
}
