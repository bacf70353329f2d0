package tests

import (
	"math"
	"slices"
	"testing"

	"loop.example/g03301/impl"
)

// stone has the corners whose X and Y are given in turn.
func stone(places ...int) impl.Stone {
	var s impl.Stone
	for i := 0; i+1 < len(places); i += 2 {
		s.Corners = append(s.Corners, pt(places[i], places[i+1]))
	}
	return s
}

// rotated is the same stone with corner k as the first one.
func rotated(s impl.Stone, k int) impl.Stone {
	return impl.Stone{Corners: slices.Concat(s.Corners[k:], s.Corners[:k])}
}

func sameStone(a impl.Stone, b impl.Stone) bool {
	return slices.Equal(a.Corners, b.Corners)
}

func validStones() []impl.Stone {
	return []impl.Stone{
		stone(0, 0, 4, 0, 4, 3, 0, 3),
		stone(0, 0, 1, 0, 0, 1),
		stone(0, 0, 7, -2, 3, 9),
		stone(-3, -5, 2, -6, 4, 1, -1, 2),
		stone(0, 0, 4, 0, 6, 3, 3, 6, -1, 3),
		stone(2, 0, 4, 0, 6, 2, 4, 4, 2, 4, 0, 2),
		stone(-20, 1, -19, 1, -18, 2, -18, 3, -19, 3, -20, 2),
		stone(-60, -60, 60, -60, 60, 60, -60, 60),
		stone(-60, 0, -20, -60, 20, -60, 60, 0, 20, 60, -20, 60),
	}
}

type namedStone struct {
	name string
	s    impl.Stone
}

func invalidStones() []namedStone {
	return []namedStone{
		{"zero", impl.Stone{}},
		{"no corners", impl.Stone{Corners: []impl.Point{}}},
		{"1 corner", stone(1, 1)},
		{"2 corners", stone(0, 0, 4, 0)},
		{"7 corners", stone(2, 0, 4, 0, 6, 2, 6, 4, 4, 6, 2, 6, 0, 4)},
		{"8 corners", stone(2, 0, 4, 0, 6, 2, 6, 4, 4, 6, 2, 6, 0, 4, 0, 2)},
		{"first corner out of range", stone(-61, 0, 4, 0, 4, 3)},
		{"a corner out of range", stone(0, 0, 61, 0, 4, 3, 0, 3)},
		{"last corner out of range", stone(0, 0, 4, 0, 4, 3, 0, 61)},
		{"greatest numbers", stone(0, 0, math.MaxInt, math.MinInt, math.MaxInt, math.MaxInt)},
		{"wrong direction, 3 corners", stone(0, 0, 0, 3, 4, 0)},
		{"wrong direction, 4 corners", stone(0, 3, 4, 3, 4, 0, 0, 0)},
		{"wrong direction, 6 corners", stone(0, 2, 2, 4, 4, 4, 6, 2, 4, 0, 2, 0)},
		{"on one line", stone(0, 0, 2, 1, 4, 2)},
		{"there and back", stone(0, 0, 4, 0, 8, 0, 2, 0)},
		{"straight on at the first corner", stone(2, 0, 4, 0, 4, 3, 0, 3, 0, 0)},
		{"straight on at the second corner", stone(0, 0, 2, 0, 4, 0, 4, 3)},
		{"straight on at the last corner", stone(4, 0, 4, 3, 0, 3, 0, 0, 2, 0)},
		{"a corner twice in a row", stone(0, 0, 4, 0, 4, 0, 4, 3)},
		{"the first corner again at the end", stone(0, 0, 4, 0, 4, 3, 0, 0)},
		{"a corner twice, not in a row", stone(0, 0, 4, 0, 4, 3, 4, 0)},
		{"one corner three times", stone(1, 1, 1, 1, 1, 1)},
		{"a dent at the third corner", stone(0, 0, 4, 0, 1, 1, 0, 4)},
		{"a dent at the first corner", stone(1, 1, 0, 4, 0, 0, 4, 0)},
		{"sides that cross", stone(0, 0, 4, 3, 4, 0, 0, 3)},
	}
}

// stars turn left at each corner, but they go around twice.
func stars() []impl.Stone {
	five := stone(6, -8, 0, 10, -6, -8, 9, 3, -9, 3)
	six := stone(6, -8, 0, 10, -6, -8, 7, 0, 7, 6, -9, 3)
	var list []impl.Stone
	for k := range 5 {
		list = append(list, rotated(five, k))
	}
	for k := range 6 {
		list = append(list, rotated(six, k))
	}
	return list
}

func allInvalidStones() []namedStone {
	list := invalidStones()
	for _, s := range stars() {
		list = append(list, namedStone{"star", s})
	}
	return list
}

// everyList calls visit with each list of n points of a grid of three by three.
func everyList(n int, visit func(list []impl.Point)) {
	list := make([]impl.Point, n)
	count := 1
	for range n {
		count *= 9
	}
	for code := range count {
		rest := code
		for i := range list {
			list[i] = pt(rest%9%3, rest%9/3)
			rest /= 9
		}
		visit(list)
	}
}

func turnAt(list []impl.Point, i int) int {
	n := len(list)
	return impl.SideOf(list[i%n], list[(i+1)%n], list[(i+2)%n])
}

// isStoneByText follows the sentence of the document, for valid points.
func isStoneByText(list []impl.Point) bool {
	if len(list) < 3 || len(list) > 6 {
		return false
	}
	for i := range list {
		if turnAt(list, i) <= 0 {
			return false
		}
	}
	for i := 1; i+1 < len(list); i++ {
		if impl.SideOf(list[0], list[i], list[i+1]) < 0 {
			return false
		}
	}
	return true
}

// rounds counts how often a way that only turns left goes around: how often a
// side that goes down is followed by one that goes up.
func rounds(list []impl.Point) int {
	goesUp := func(i int) bool {
		a, b := list[i%len(list)], list[(i+1)%len(list)]
		return b.Y > a.Y || b.Y == a.Y && b.X > a.X
	}
	count := 0
	for i := range list {
		if !goesUp(i) && goesUp(i+1) {
			count++
		}
	}
	return count
}

func TestStoneOk(t *testing.T) {
	for _, s := range validStones() {
		for k := range s.Corners {
			if r := rotated(s, k); !impl.StoneOk(r) {
				t.Errorf("StoneOk(%v) is false", r)
			}
		}
	}
	for _, c := range invalidStones() {
		if impl.StoneOk(c.s) {
			t.Errorf("%s: StoneOk(%v) is true", c.name, c.s)
		}
	}
}

func TestStoneOkAroundTwice(t *testing.T) {
	for _, s := range stars() {
		for i := range s.Corners {
			if turnAt(s.Corners, i) <= 0 {
				t.Fatalf("the star %v does not turn left at each corner and shows nothing", s)
			}
		}
		if rounds(s.Corners) != 2 {
			t.Fatalf("the star %v does not go around twice and shows nothing", s)
		}
		if impl.StoneOk(s) {
			t.Errorf("StoneOk(%v) is true", s)
		}
	}
}

// The sentence of the document looks at a way that goes around twice from its
// first corner only. These ways pass, though they are not convex: a triangle
// twice, and a star whose first corner is close to its middle.
func TestStoneOkAroundTwiceByText(t *testing.T) {
	list := []impl.Stone{
		stone(0, 0, 4, 0, 0, 3, 0, 0, 4, 0, 0, 3),
		stone(0, 0, 10, 0, -6, 8, -2, -10, 9, 5),
	}
	for _, s := range list {
		if rounds(s.Corners) != 2 || !isStoneByText(s.Corners) {
			t.Fatalf("%v shows nothing", s)
		}
		if !impl.StoneOk(s) {
			t.Errorf("StoneOk(%v) is false", s)
		}
	}
	if r := rotated(list[1], 1); impl.StoneOk(r) {
		t.Errorf("StoneOk(%v) is true", r)
	}
}

func TestStoneOkEveryCornerInvalid(t *testing.T) {
	for _, s := range validStones() {
		for i := range s.Corners {
			for _, p := range invalidPoints() {
				changed := impl.Stone{Corners: slices.Clone(s.Corners)}
				changed.Corners[i] = p
				if impl.StoneOk(changed) {
					t.Errorf("StoneOk(%v) is true", changed)
				}
			}
		}
	}
}

func TestStoneOkSmallLists(t *testing.T) {
	for n := range 7 {
		found := 0
		everyList(n, func(list []impl.Point) {
			want := isStoneByText(list)
			if got := impl.StoneOk(impl.Stone{Corners: list}); got != want {
				t.Fatalf("StoneOk(%v) = %v, want %v", list, got, want)
			}
			if want {
				found++
			}
		})
		if n >= 3 && found == 0 {
			t.Errorf("no stone with %d corners was tried", n)
		}
	}
}

func TestIsInStone(t *testing.T) {
	block := stone(0, 0, 4, 0, 4, 3, 0, 3)
	roof := stone(-4, 0, 4, 0, 0, 2)
	cases := []struct {
		name string
		s    impl.Stone
		p    impl.Point
		want bool
	}{
		{"inside", block, pt(2, 1), true},
		{"at the first corner", block, pt(0, 0), true},
		{"at the last corner", block, pt(0, 3), true},
		{"on the first side", block, pt(2, 0), true},
		{"on the last side", block, pt(0, 1), true},
		{"just below", block, pt(2, -1), false},
		{"just to the right", block, pt(5, 1), false},
		{"just above", block, pt(2, 4), false},
		{"just to the left", block, pt(-1, 1), false},
		{"on the line of a side, beyond it", block, pt(5, 0), false},
		{"on the line of a side, before it", block, pt(-1, 3), false},
		{"on a slope", roof, pt(2, 1), true},
		{"on the other slope", roof, pt(-2, 1), true},
		{"under a slope", roof, pt(1, 1), true},
		{"in the box, above a slope", roof, pt(3, 1), false},
		{"in the box, above the other slope", roof, pt(-3, 1), false},
		{"on the line of a slope, beyond it", roof, pt(-2, 3), false},
	}
	for _, c := range cases {
		if got := impl.IsInStone(c.s, c.p); got != c.want {
			t.Errorf("%s: IsInStone(%v, %v) = %v, want %v", c.name, c.s, c.p, got, c.want)
		}
	}
}

func TestIsInStoneEveryPoint(t *testing.T) {
	cases := []struct {
		s    impl.Stone
		isIn func(x int, y int) bool
	}{
		{stone(0, 0, 4, 0, 4, 3, 0, 3), func(x int, y int) bool { return x >= 0 && x <= 4 && y >= 0 && y <= 3 }},
		{stone(0, 0, 5, 0, 0, 5), func(x int, y int) bool { return x >= 0 && y >= 0 && x+y <= 5 }},
		{stone(2, 0, 4, 0, 6, 2, 4, 4, 2, 4, 0, 2), func(x int, y int) bool {
			return y >= 0 && y <= 4 && x+y >= 2 && x+y <= 8 && x-y <= 4 && y-x <= 2
		}},
		{stone(-60, -60, 60, -60, 60, 60, -60, 60), func(x int, y int) bool { return true }},
	}
	for _, c := range cases {
		for x := -62; x <= 62; x++ {
			for y := -62; y <= 62; y++ {
				p := pt(x, y)
				want := impl.PointOk(p) && c.isIn(x, y)
				if got := impl.IsInStone(c.s, p); got != want {
					t.Fatalf("IsInStone(%v, %v) = %v, want %v", c.s, p, got, want)
				}
			}
		}
	}
}

func TestIsInStoneInvalid(t *testing.T) {
	for _, c := range allInvalidStones() {
		for _, p := range append([]impl.Point{pt(1, 1), pt(0, 0), pt(2, 1)}, c.s.Corners...) {
			if impl.IsInStone(c.s, p) {
				t.Errorf("%s: IsInStone(%v, %v) is true", c.name, c.s, p)
			}
		}
	}
	for _, s := range validStones() {
		for _, p := range invalidPoints() {
			if impl.IsInStone(s, p) {
				t.Errorf("IsInStone(%v, %v) is true", s, p)
			}
		}
	}
}

func TestWidestOf(t *testing.T) {
	cases := []struct {
		s    impl.Stone
		want int
	}{
		{stone(0, 0, 4, 0, 4, 3, 0, 3), 25},
		{stone(0, 0, 1, 0, 0, 1), 2},
		{stone(0, 0, 7, -2, 3, 9), 137},
		{stone(7, -2, 3, 9, 0, 0), 137},
		{stone(3, 9, 0, 0, 7, -2), 137},
		{stone(2, 0, 4, 0, 6, 2, 4, 4, 2, 4, 0, 2), 36},
		{stone(-60, -60, 60, -60, 60, 60, -60, 60), 28800},
		{stone(-60, 0, -20, -60, 20, -60, 60, 0, 20, 60, -20, 60), 16000},
	}
	for _, c := range cases {
		if got := impl.WidestOf(c.s); got != c.want {
			t.Errorf("WidestOf(%v) = %d, want %d", c.s, got, c.want)
		}
	}
	for _, c := range allInvalidStones() {
		if got := impl.WidestOf(c.s); got != -1 {
			t.Errorf("%s: WidestOf(%v) = %d, want -1", c.name, c.s, got)
		}
	}
}

func TestBoxOf(t *testing.T) {
	cases := []struct {
		s         impl.Stone
		low, high impl.Point
	}{
		{stone(0, 0, 4, 0, 4, 3, 0, 3), pt(0, 0), pt(4, 3)},
		{stone(5, 5, 6, 5, 5, 6), pt(5, 5), pt(6, 6)},
		{stone(-6, -5, -5, -5, -6, -3), pt(-6, -5), pt(-5, -3)},
		{stone(0, 0, 7, -2, 3, 9), pt(0, -2), pt(7, 9)},
		{stone(2, 0, 4, 0, 6, 2, 4, 4, 2, 4, 0, 2), pt(0, 0), pt(6, 4)},
		{stone(4, 4, 2, 4, 0, 2, 2, 0, 4, 0, 6, 2), pt(0, 0), pt(6, 4)},
		{stone(-60, -60, 60, -60, 60, 60, -60, 60), pt(-60, -60), pt(60, 60)},
	}
	for _, c := range cases {
		if low, high := impl.BoxOf(c.s); low != c.low || high != c.high {
			t.Errorf("BoxOf(%v) = %v, %v, want %v, %v", c.s, low, high, c.low, c.high)
		}
	}
	for _, c := range allInvalidStones() {
		if low, high := impl.BoxOf(c.s); low != pt(0, 0) || high != pt(0, 0) {
			t.Errorf("%s: BoxOf(%v) = %v, %v, want zero points", c.name, c.s, low, high)
		}
	}
}

func TestMirrorStone(t *testing.T) {
	cases := []struct {
		s    impl.Stone
		x    int
		want impl.Stone
	}{
		{stone(0, 0, 4, 0, 4, 3, 0, 3), 0, stone(0, 3, -4, 3, -4, 0, 0, 0)},
		{stone(0, 0, 4, 0, 4, 3, 0, 3), 2, stone(4, 3, 0, 3, 0, 0, 4, 0)},
		{stone(0, 0, 7, -2, 3, 9), -3, stone(-9, 9, -13, -2, -6, 0)},
		{stone(0, 0, 4, 0, 6, 3, 3, 6, -1, 3), 1, stone(3, 3, -1, 6, -4, 3, -2, 0, 2, 0)},
		{stone(0, 0, 4, 0, 0, 3), 30, stone(60, 3, 56, 0, 60, 0)},
		{stone(0, 0, 4, 0, 0, 3), -28, stone(-56, 3, -60, 0, -56, 0)},
		{stone(0, 0, 4, 0, 0, 3), 31, impl.Stone{}},
		{stone(0, 0, 4, 0, 0, 3), -29, impl.Stone{}},
		{stone(0, 0, 4, 0, 0, 3), 60, impl.Stone{}},
		{stone(0, 0, 4, 0, 0, 3), 61, impl.Stone{}},
		{stone(0, 0, 4, 0, 0, 3), -61, impl.Stone{}},
		{stone(56, 0, 60, 0, 56, 3), 60, impl.Stone{}},
		{stone(56, 0, 60, 0, 56, 3), 58, stone(60, 3, 56, 0, 60, 0)},
		{stone(-60, -60, 60, -60, 60, 60, -60, 60), 0, stone(60, 60, -60, 60, -60, -60, 60, -60)},
		{stone(-60, -60, 60, -60, 60, 60, -60, 60), 1, impl.Stone{}},
	}
	for _, c := range cases {
		if got := impl.MirrorStone(c.s, c.x); !sameStone(got, c.want) {
			t.Errorf("MirrorStone(%v, %d) = %v, want %v", c.s, c.x, got, c.want)
		}
	}
}

func TestMirrorStoneInvalid(t *testing.T) {
	for _, c := range allInvalidStones() {
		for _, x := range append(validPlaces(), invalidPlaces()...) {
			if got := impl.MirrorStone(c.s, x); !sameStone(got, impl.Stone{}) {
				t.Errorf("%s: MirrorStone(%v, %d) = %v, want the zero Stone", c.name, c.s, x, got)
			}
		}
	}
	for _, s := range validStones() {
		for _, x := range invalidPlaces() {
			if got := impl.MirrorStone(s, x); !sameStone(got, impl.Stone{}) {
				t.Errorf("MirrorStone(%v, %d) = %v, want the zero Stone", s, x, got)
			}
		}
	}
}

// checkMirror compares the image of a stone with what the document says of it.
func checkMirror(t *testing.T, s impl.Stone, x int) {
	t.Helper()
	image := impl.MirrorStone(s, x)
	var want impl.Stone
	for _, p := range slices.Backward(s.Corners) {
		want.Corners = append(want.Corners, impl.MirrorPoint(p, x))
	}
	if low, high := impl.BoxOf(s); 2*x-low.X > impl.MaxPlace || 2*x-high.X < -impl.MaxPlace {
		want = impl.Stone{}
	}
	if !sameStone(image, want) {
		t.Fatalf("MirrorStone(%v, %d) = %v, want %v", s, x, image, want)
	}
	if len(image.Corners) == 0 {
		return
	}
	if !impl.StoneOk(image) || impl.WidestOf(image) != impl.WidestOf(s) {
		t.Fatalf("the image %v of %v at %d is not a stone that is as wide", image, s, x)
	}
	if back := impl.MirrorStone(image, x); !sameStone(back, s) {
		t.Fatalf("MirrorStone(%v, %d) = %v, want %v", image, x, back, s)
	}
}

func TestMirrorImageIsAStone(t *testing.T) {
	for _, s := range validStones() {
		for x := -impl.MaxPlace; x <= impl.MaxPlace; x++ {
			checkMirror(t, s, x)
		}
	}
}

// Promise 3, for all small stones that go around once.
func TestStoneContainsItsCorners(t *testing.T) {
	check := func(s impl.Stone) {
		low, high := impl.BoxOf(s)
		for _, p := range s.Corners {
			if !impl.IsInStone(s, p) {
				t.Fatalf("IsInStone(%v, %v) is false", s, p)
			}
			if p.X < low.X || p.X > high.X || p.Y < low.Y || p.Y > high.Y {
				t.Fatalf("the box %v, %v of %v does not hold %v", low, high, s, p)
			}
			image := impl.MirrorStone(s, 1)
			if len(image.Corners) > 0 && !impl.IsInStone(image, impl.MirrorPoint(p, 1)) {
				t.Fatalf("the image %v of %v does not hold the image of %v", image, s, p)
			}
		}
	}
	for _, s := range validStones() {
		check(s)
	}
	for n := 3; n <= 6; n++ {
		everyList(n, func(list []impl.Point) {
			s := impl.Stone{Corners: list}
			if impl.StoneOk(s) && rounds(list) == 1 {
				check(s)
				checkMirror(t, s, 1)
			}
		})
	}
}

func TestStoneText(t *testing.T) {
	cases := []struct {
		s    impl.Stone
		want string
	}{
		{stone(0, 0, 4, 0, 4, 3, 0, 3), "0,0 4,0 4,3 0,3"},
		{stone(0, 0, 1, 0, 0, 1), "0,0 1,0 0,1"},
		{stone(-3, -5, 2, -6, 4, 1, -1, 2), "-3,-5 2,-6 4,1 -1,2"},
		{stone(-60, 0, -20, -60, 20, -60, 60, 0, 20, 60, -20, 60), "-60,0 -20,-60 20,-60 60,0 20,60 -20,60"},
	}
	for _, c := range cases {
		if got := impl.StoneText(c.s); got != c.want {
			t.Errorf("StoneText(%v) = %q, want %q", c.s, got, c.want)
		}
	}
	for _, c := range allInvalidStones() {
		if got := impl.StoneText(c.s); got != "" {
			t.Errorf("%s: StoneText(%v) = %q, want \"\"", c.name, c.s, got)
		}
	}
}

func TestStoneArgumentsUnchanged(t *testing.T) {
	list := validStones()
	for _, c := range allInvalidStones() {
		list = append(list, c.s)
	}
	for _, s := range list {
		// The corners that follow in the spare capacity must stay as well.
		full := append(slices.Clone(s.Corners), pt(7, 7), pt(8, 8))
		before := slices.Clone(full)
		arg := impl.Stone{Corners: full[:len(s.Corners)]}
		impl.StoneOk(arg)
		impl.IsInStone(arg, pt(1, 1))
		impl.WidestOf(arg)
		impl.BoxOf(arg)
		impl.StoneText(arg)
		image := impl.MirrorStone(arg, 0)
		for i := range image.Corners {
			image.Corners[i] = pt(9, 9)
		}
		image.Corners = append(image.Corners, pt(9, 9))
		if !slices.Equal(full, before) {
			t.Errorf("the corners %v became %v", before, full)
		}
	}
}
