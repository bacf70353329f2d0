package tests

import (
	"math"
	"slices"
	"strings"
	"testing"

	"loop.example/g03301/impl"
)

func archOf(joints ...impl.Joint) impl.Arch {
	return impl.Arch{Joints: joints}
}

func sameArch(a impl.Arch, b impl.Arch) bool {
	return slices.Equal(a.Joints, b.Joints)
}

func copyOfArch(a impl.Arch) impl.Arch {
	return impl.Arch{Joints: slices.Clone(a.Joints)}
}

// upright has n upright joints of height 4, from the X of the first one on, and
// the same step between two.
func upright(n int, first int, step int) impl.Arch {
	var a impl.Arch
	for k := range n {
		x := first + k*step
		a.Joints = append(a.Joints, jt(x, 0, x, 4))
	}
	return a
}

// archCase is an arch with all that Chapter 6 says of it.
type archCase struct {
	name   string
	a      impl.Arch
	stones int
	span   int
	rise   int
	text   string
}

func archCases() []archCase {
	return []archCase{
		{"two square stones", upright(3, 0, 4), 2, 8, 0, "0,0-0,4 4,0-4,4 8,0-8,4"},
		{"two narrow stones", upright(3, -1, 1), 2, 2, 0, "-1,0--1,4 0,0-0,4 1,0-1,4"},
		{"seven stones in a row", upright(8, -20, 5), 7, 35, 0, "-20,0--20,4 -15,0--15,4 -10,0--10,4 -5,0--5,4 0,0-0,4 5,0-5,4 10,0-10,4 15,0-15,4"},
		{"the greatest two stones", archOf(jt(-60, -60, -60, 60), jt(0, -60, 0, 60), jt(60, -60, 60, 60)), 2, 120, 0, "-60,-60--60,60 0,-60-0,60 60,-60-60,60"},
		{"the sample of three stones", archOf(jt(0, 0, -2, 3), jt(5, 2, 4, 6), jt(11, 2, 12, 6), jt(16, 0, 18, 3)), 3, 16, 2, "0,0--2,3 5,2-4,6 11,2-12,6 16,0-18,3"},
		{"highest in the middle, flat abutments", archOf(jt(-9, 0, -12, 0), jt(-6, 6, -8, 8), jt(0, 9, 0, 12), jt(6, 6, 8, 8), jt(9, 0, 12, 0)), 4, 18, 9, "-9,0--12,0 -6,6--8,8 0,9-0,12 6,6-8,8 9,0-12,0"},
		{"highest in the middle, the left abutment lower", archOf(jt(0, -3, -4, -1), jt(5, 6, 3, 9), jt(9, 2, 12, 5)), 2, 9, 9, "0,-3--4,-1 5,6-3,9 9,2-12,5"},
		{"highest in the middle, the right abutment lower", archOf(jt(-9, 2, -12, 5), jt(-5, 6, -3, 9), jt(0, -3, 4, -1)), 2, 9, 9, "-9,2--12,5 -5,6--3,9 0,-3-4,-1"},
		{"highest at the left end", archOf(jt(0, 7, -1, 11), jt(4, 6, 4, 9), jt(8, 3, 9, 7)), 2, 8, 4, "0,7--1,11 4,6-4,9 8,3-9,7"},
		{"highest at the right end", archOf(jt(-8, 3, -9, 7), jt(-4, 6, -4, 9), jt(0, 7, 1, 11)), 2, 8, 4, "-8,3--9,7 -4,6--4,9 0,7-1,11"},
		{"lowest in the middle", archOf(jt(-10, 0, -11, 6), jt(0, -4, 0, 5), jt(10, 1, 9, 6)), 2, 20, 1, "-10,0--11,6 0,-4-0,5 10,1-9,6"},
		{"all below 0", archOf(jt(-10, -30, -11, -20), jt(-1, -25, -2, -20), jt(7, -28, 9, -21)), 2, 17, 5, "-10,-30--11,-20 -1,-25--2,-20 7,-28-9,-21"},
		{"seven stones of an arc", archOf(jt(-24, 0, -30, 0), jt(-22, 10, -27, 12), jt(-15, 18, -19, 23), jt(-5, 23, -7, 29), jt(5, 23, 7, 29), jt(15, 18, 19, 23), jt(22, 10, 27, 12), jt(24, 0, 30, 0)), 7, 48, 23, "-24,0--30,0 -22,10--27,12 -15,18--19,23 -5,23--7,29 5,23-7,29 15,18-19,23 22,10-27,12 24,0-30,0"},
	}
}

func validArches() []impl.Arch {
	var list []impl.Arch
	for _, c := range archCases() {
		list = append(list, c.a)
	}
	return list
}

type namedArch struct {
	name string
	a    impl.Arch
}

// archesWithoutStone have one pair of neighbours that makes no stone, and each
// Inner further right than the one before.
func archesWithoutStone() []namedArch {
	return []namedArch{
		{"no stone at the left end", archOf(jt(0, 0, 12, 4), jt(10, 0, 10, 4), jt(20, 0, 20, 4), jt(30, 0, 30, 4))},
		{"no stone in the middle", archOf(jt(0, 0, 0, 4), jt(10, 0, 16, 4), jt(20, 0, 14, 4), jt(30, 0, 30, 4))},
		{"no stone at the right end", archOf(jt(0, 0, 0, 4), jt(10, 0, 10, 4), jt(20, 0, 20, 4), jt(30, 0, 18, 4))},
		{"no stone at the left end of two", archOf(jt(0, 0, 12, 4), jt(10, 0, 10, 4), jt(20, 0, 20, 4))},
		{"no stone at the right end of two", archOf(jt(0, 0, 0, 4), jt(10, 0, 10, 4), jt(20, 0, 8, 4))},
	}
}

// archesNotToTheRight have a stone between each two neighbours, and one Inner
// that is not further right than the one before.
func archesNotToTheRight() []namedArch {
	return []namedArch{
		{"the same X at the left end", archOf(jt(0, 0, -4, 0), jt(0, 3, -4, 4), jt(3, 6, 1, 9))},
		{"a lesser X at the left end", archOf(jt(0, 0, -4, 0), jt(-1, 3, -4, 4), jt(3, 6, 1, 9))},
		{"the same X in the middle", archOf(jt(-2, -3, -5, -3), jt(0, 0, -4, 0), jt(0, 3, -4, 4), jt(3, 6, 1, 9))},
		{"a lesser X in the middle", archOf(jt(-2, -3, -5, -3), jt(0, 0, -4, 0), jt(-1, 3, -4, 4), jt(3, 6, 1, 9))},
		{"the same X at the right end", archOf(jt(-3, 6, -1, 9), jt(0, 3, 4, 4), jt(0, 0, 4, 0))},
		{"a lesser X at the right end", archOf(jt(-3, 6, -1, 9), jt(1, 3, 4, 4), jt(0, 0, 4, 0))},
	}
}

func invalidArches() []namedArch {
	list := []namedArch{
		{"zero", impl.Arch{}},
		{"no joints", impl.Arch{Joints: []impl.Joint{}}},
		{"1 joint", upright(1, 0, 4)},
		{"2 joints", upright(2, 0, 4)},
		{"9 joints", upright(9, 0, 4)},
		{"20 joints", upright(20, 0, 3)},
		{"zero Joints", archOf(impl.Joint{}, impl.Joint{}, impl.Joint{})},
		{"from right to left", upright(3, 8, -4)},
		{"a joint twice", archOf(jt(0, 0, 0, 4), jt(4, 0, 4, 4), jt(4, 0, 4, 4), jt(8, 0, 8, 4))},
		{"Inner above Outer", archOf(jt(0, 4, 0, 0), jt(4, 4, 4, 0), jt(8, 4, 8, 0))},
		{"one place beyond the limit", archOf(jt(-61, 0, -61, 4), jt(0, 0, 0, 4), jt(60, 0, 60, 4))},
	}
	list = append(list, archesWithoutStone()...)
	list = append(list, archesNotToTheRight()...)
	good := archCases()[4].a
	for k := range good.Joints {
		for _, p := range invalidPoints() {
			inner, outer := copyOfArch(good), copyOfArch(good)
			inner.Joints[k].Inner = p
			outer.Joints[k].Outer = p
			list = append(list, namedArch{"Inner out of range", inner}, namedArch{"Outer out of range", outer})
		}
	}
	return list
}

// isArchByText follows the sentence of the document, without StoneBetween.
func isArchByText(list []impl.Joint) bool {
	if len(list) < 3 || len(list) > 8 {
		return false
	}
	for i := 1; i < len(list); i++ {
		a, b := list[i-1], list[i]
		corners := []impl.Point{a.Inner, b.Inner, b.Outer, a.Outer}
		if !isStoneByText(corners) || a.Inner.X >= b.Inner.X {
			return false
		}
	}
	return true
}

func TestMaxJoints(t *testing.T) {
	if impl.MaxJoints != 8 {
		t.Errorf("MaxJoints is %d, want 8", impl.MaxJoints)
	}
}

func TestArchOk(t *testing.T) {
	for _, c := range archCases() {
		if !impl.ArchOk(c.a) {
			t.Errorf("%s: ArchOk(%v) is false", c.name, c.a)
		}
	}
	for _, c := range invalidArches() {
		if impl.ArchOk(c.a) {
			t.Errorf("%s: ArchOk(%v) is true", c.name, c.a)
		}
	}
}

func TestArchOkCount(t *testing.T) {
	for n := range 16 {
		want := n >= 3 && n <= 8
		if got := impl.ArchOk(upright(n, -30, 4)); got != want {
			t.Errorf("ArchOk of %d joints = %v, want %v", n, got, want)
		}
	}
}

// Each of these arches has just the fault of which its name speaks.
func TestArchOkOneFault(t *testing.T) {
	for _, c := range archesWithoutStone() {
		missing := 0
		for k := range len(c.a.Joints) - 1 {
			if _, ok := impl.StoneBetween(c.a.Joints[k], c.a.Joints[k+1]); !ok {
				missing++
			}
			if c.a.Joints[k].Inner.X >= c.a.Joints[k+1].Inner.X {
				t.Errorf("%s: the joint after joint %d is not to the right", c.name, k)
			}
		}
		if missing != 1 {
			t.Errorf("%s: %d stones are missing", c.name, missing)
		}
	}
	for _, c := range archesNotToTheRight() {
		for k := range len(c.a.Joints) - 1 {
			if _, ok := impl.StoneBetween(c.a.Joints[k], c.a.Joints[k+1]); !ok {
				t.Errorf("%s: there is no stone after joint %d", c.name, k)
			}
		}
	}
}

// Each coordinate of each arch is moved by up to 12 in turn, and each joint is
// turned or left out.
func TestArchOkAfterEveryMove(t *testing.T) {
	kept, broken := 0, 0
	check := func(b impl.Arch) {
		want := isArchByText(b.Joints)
		if want {
			kept++
		} else {
			broken++
		}
		if got := impl.ArchOk(b); got != want {
			t.Fatalf("ArchOk(%v) = %v, want %v", b, got, want)
		}
	}
	for _, a := range validArches() {
		for k, j := range a.Joints {
			for by := -12; by <= 12; by++ {
				for _, moved := range []impl.Joint{
					jt(j.Inner.X+by, j.Inner.Y, j.Outer.X, j.Outer.Y),
					jt(j.Inner.X, j.Inner.Y+by, j.Outer.X, j.Outer.Y),
					jt(j.Inner.X, j.Inner.Y, j.Outer.X+by, j.Outer.Y),
					jt(j.Inner.X, j.Inner.Y, j.Outer.X, j.Outer.Y+by),
				} {
					if impl.JointOk(moved) {
						b := copyOfArch(a)
						b.Joints[k] = moved
						check(b)
					}
				}
			}
			b := copyOfArch(a)
			b.Joints[k] = turned(j)
			check(b)
			check(archOf(slices.Concat(a.Joints[:k], a.Joints[k+1:])...))
		}
	}
	if kept == 0 || broken == 0 {
		t.Errorf("only arches of one kind were tried: %d and %d", kept, broken)
	}
}

func TestArchOkSmallArches(t *testing.T) {
	found := 0
	everyList(6, func(list []impl.Point) {
		a := archOf(
			impl.Joint{Inner: list[0], Outer: list[1]},
			impl.Joint{Inner: list[2], Outer: list[3]},
			impl.Joint{Inner: list[4], Outer: list[5]},
		)
		want := isArchByText(a.Joints)
		if got := impl.ArchOk(a); got != want {
			t.Fatalf("ArchOk(%v) = %v, want %v", a, got, want)
		}
		if want {
			found++
			checkMirroredArch(t, a, 1)
		}
	})
	if found == 0 {
		t.Error("no arch was tried")
	}
}

func TestNumbersOfArches(t *testing.T) {
	for _, c := range archCases() {
		if got := impl.CountStones(c.a); got != c.stones {
			t.Errorf("%s: CountStones = %d, want %d", c.name, got, c.stones)
		}
		if got := impl.SpanOf(c.a); got != c.span {
			t.Errorf("%s: SpanOf = %d, want %d", c.name, got, c.span)
		}
		if got := impl.RiseOf(c.a); got != c.rise {
			t.Errorf("%s: RiseOf = %d, want %d", c.name, got, c.rise)
		}
		if got := impl.ArchText(c.a); got != c.text {
			t.Errorf("%s: ArchText = %q, want %q", c.name, got, c.text)
		}
	}
}

func TestNumbersOfInvalidArches(t *testing.T) {
	for _, c := range invalidArches() {
		if got := impl.CountStones(c.a); got != 0 {
			t.Errorf("%s: CountStones(%v) = %d, want 0", c.name, c.a, got)
		}
		if got := impl.SpanOf(c.a); got != 0 {
			t.Errorf("%s: SpanOf(%v) = %d, want 0", c.name, c.a, got)
		}
		if got := impl.RiseOf(c.a); got != 0 {
			t.Errorf("%s: RiseOf(%v) = %d, want 0", c.name, c.a, got)
		}
		if got := impl.ArchText(c.a); got != "" {
			t.Errorf("%s: ArchText(%v) = %q, want \"\"", c.name, c.a, got)
		}
		for k := -1; k <= 9; k++ {
			if got := impl.StoneOf(c.a, k); len(got.Corners) != 0 {
				t.Errorf("%s: StoneOf(%v, %d) = %v, want the zero Stone", c.name, c.a, k, got)
			}
		}
	}
}

func TestArchTextIsOfJoints(t *testing.T) {
	for _, a := range validArches() {
		var texts []string
		for _, j := range a.Joints {
			texts = append(texts, impl.JointText(j))
		}
		if got, want := impl.ArchText(a), strings.Join(texts, " "); got != want {
			t.Errorf("ArchText(%v) = %q, want %q", a, got, want)
		}
	}
}

func TestStoneOf(t *testing.T) {
	sample := archCases()[4].a
	want := []impl.Stone{
		stone(0, 0, 5, 2, 4, 6, -2, 3),
		stone(5, 2, 11, 2, 12, 6, 4, 6),
		stone(11, 2, 16, 0, 18, 3, 12, 6),
	}
	for k, s := range want {
		if got := impl.StoneOf(sample, k); !sameStone(got, s) {
			t.Errorf("StoneOf(%v, %d) = %v, want %v", sample, k, got, s)
		}
	}
}

func TestStoneOfEveryIndex(t *testing.T) {
	for _, a := range validArches() {
		n := len(a.Joints) - 1
		for k := range n {
			l, r := a.Joints[k], a.Joints[k+1]
			want := impl.Stone{Corners: []impl.Point{l.Inner, r.Inner, r.Outer, l.Outer}}
			got := impl.StoneOf(a, k)
			if !sameStone(got, want) || !impl.StoneOk(got) {
				t.Errorf("StoneOf(%v, %d) = %v, want %v", a, k, got, want)
			}
		}
		for _, k := range []int{-1, -2, -n, n, n + 1, n + 2, 100, -1 << 32, 1 << 32, math.MinInt, math.MinInt + 1, math.MaxInt - 1, math.MaxInt} {
			if got := impl.StoneOf(a, k); len(got.Corners) != 0 {
				t.Errorf("StoneOf(%v, %d) = %v, want the zero Stone", a, k, got)
			}
		}
	}
	for _, k := range []int{math.MinInt, math.MaxInt} {
		if got := impl.StoneOf(upright(9, 0, 4), k); len(got.Corners) != 0 {
			t.Errorf("StoneOf an invalid arch at %d = %v, want the zero Stone", k, got)
		}
	}
}

func TestMirrorArch(t *testing.T) {
	cases := []struct {
		name string
		a    impl.Arch
		x    int
		want impl.Arch
	}{
		{"its own image", upright(3, 0, 4), 4, upright(3, 0, 4)},
		{"the mirror at the left end", upright(3, 0, 4), 0, upright(3, -8, 4)},
		{"the mirror at the right end", upright(3, 0, 4), 8, upright(3, 8, 4)},
		{"the mirror beside it", upright(8, 0, 4), -3, upright(8, -34, 4)},
		{"the sample", archCases()[4].a, 3, archOf(jt(-10, 0, -12, 3), jt(-5, 2, -6, 6), jt(1, 2, 2, 6), jt(6, 0, 8, 3))},
		{"ends at different heights", archOf(jt(0, -3, -4, -1), jt(5, 6, 3, 9), jt(9, 2, 12, 5)), 0, archOf(jt(-9, 2, -12, 5), jt(-5, 6, -3, 9), jt(0, -3, 4, -1))},
		{"from MaxPlace to -MaxPlace", upright(3, 52, 4), 0, upright(3, -60, 4)},
		{"to MaxPlace", upright(3, -8, 4), 26, upright(3, 52, 4)},
		{"Inner out of range afterwards", upright(3, -9, 4), 26, impl.Arch{}},
		{"Outer out of range afterwards", archOf(jt(0, 0, -2, 3), jt(5, 2, 4, 6), jt(11, 2, 12, 6)), 30, impl.Arch{}},
		{"Outer within the range afterwards", archOf(jt(0, 0, -2, 3), jt(5, 2, 4, 6), jt(11, 2, 12, 6)), 29, archOf(jt(47, 2, 46, 6), jt(53, 2, 54, 6), jt(58, 0, 60, 3))},
		{"all out of range afterwards", upright(3, 0, 4), 60, impl.Arch{}},
		{"all out of range on the left afterwards", upright(3, 0, 4), -60, impl.Arch{}},
		{"the mirror at MaxPlace", upright(3, 52, 4), 60, impl.Arch{}},
		{"its own image at the limits", upright(3, -60, 60), 0, upright(3, -60, 60)},
		{"beside its own image at the limits", upright(3, -60, 60), 1, impl.Arch{}},
	}
	for _, c := range cases {
		got, ok := impl.MirrorArch(c.a, c.x)
		if ok != (len(c.want.Joints) > 0) || !sameArch(got, c.want) {
			t.Errorf("%s: MirrorArch(%v, %d) = %v, %v, want %v", c.name, c.a, c.x, got, ok, c.want)
		}
	}
}

func TestMirrorArchInvalid(t *testing.T) {
	for _, c := range invalidArches() {
		for _, x := range append(validPlaces(), invalidPlaces()...) {
			if got, ok := impl.MirrorArch(c.a, x); ok || len(got.Joints) != 0 {
				t.Fatalf("%s: MirrorArch(%v, %d) = %v, %v, want the zero Arch and false", c.name, c.a, x, got, ok)
			}
		}
	}
	for _, a := range validArches() {
		for _, x := range invalidPlaces() {
			if got, ok := impl.MirrorArch(a, x); ok || len(got.Joints) != 0 {
				t.Fatalf("MirrorArch(%v, %d) = %v, %v, want the zero Arch and false", a, x, got, ok)
			}
		}
	}
	// The image of a list from right to left would be an arch.
	for _, x := range []int{0, 4, 61, math.MaxInt} {
		if got, ok := impl.MirrorArch(upright(3, 8, -4), x); ok || len(got.Joints) != 0 {
			t.Errorf("MirrorArch of joints from right to left at %d = %v, %v, want the zero Arch and false", x, got, ok)
		}
	}
}

// checkMirroredArch tests promise 6 for the image of a at x: all that is true
// of the image if there is one, and that there is one if its joints are valid.
func checkMirroredArch(t *testing.T, a impl.Arch, x int) bool {
	t.Helper()
	image, ok := impl.MirrorArch(a, x)
	want := impl.Arch{}
	for _, j := range a.Joints {
		want.Joints = append(want.Joints, impl.MirrorJoint(j, x))
	}
	slices.Reverse(want.Joints)
	if !isArchByText(want.Joints) {
		if ok || len(image.Joints) != 0 {
			t.Fatalf("MirrorArch(%v, %d) = %v, %v, want the zero Arch and false", a, x, image, ok)
		}
		return false
	}
	if !ok || !sameArch(image, want) || !impl.ArchOk(image) {
		t.Fatalf("MirrorArch(%v, %d) = %v, %v, want %v", a, x, image, ok, want)
	}
	if impl.SpanOf(image) != impl.SpanOf(a) || impl.RiseOf(image) != impl.RiseOf(a) {
		t.Fatalf("the image of %v at %d has another span or another rise", a, x)
	}
	checkMirroredStones(t, a, image, x)
	if again, ok := impl.MirrorArch(image, x); !ok || !sameArch(again, a) {
		t.Fatalf("MirrorArch(%v, %d) = %v, %v, want %v", image, x, again, ok, a)
	}
	return true
}

// checkMirroredStones compares the stones of a, from the right, with those of
// its image, from the left.
func checkMirroredStones(t *testing.T, a impl.Arch, image impl.Arch, x int) {
	t.Helper()
	n := impl.CountStones(a)
	if n != len(a.Joints)-1 || impl.CountStones(image) != n {
		t.Fatalf("the image of %v at %d has %d stones, want %d", a, x, impl.CountStones(image), n)
	}
	for k := range n {
		s, got := impl.StoneOf(a, n-1-k), impl.StoneOf(image, k)
		want := rotated(impl.MirrorStone(s, x), 2)
		if !sameStone(got, want) {
			t.Fatalf("stone %d of the image of %v at %d is %v, want %v", k, a, x, got, want)
		}
		if impl.WeightOf(got) != impl.WeightOf(s) || impl.HeightMoment(got) != impl.HeightMoment(s) || impl.WidestOf(got) != impl.WidestOf(s) {
			t.Fatalf("stone %d of the image of %v at %d has another weight, height or width", k, a, x)
		}
		if impl.MomentOf(got) != 2*x*impl.WeightOf(s)-impl.MomentOf(s) {
			t.Fatalf("the moment of stone %d of the image of %v at %d is not mirrored", k, a, x)
		}
	}
}

// Promise 6.
func TestMirrorArchHasTheSameStones(t *testing.T) {
	for _, a := range validArches() {
		mirrored := 0
		for x := -impl.MaxPlace - 3; x <= impl.MaxPlace+3; x++ {
			if checkMirroredArch(t, a, x) {
				mirrored++
			}
		}
		if mirrored == 0 {
			t.Errorf("no image of %v was tried", a)
		}
	}
}

// The weights are written out here, so that they do not depend on Chapter 4.
func TestMirrorArchReversesWeights(t *testing.T) {
	a := archOf(jt(0, 0, 0, 4), jt(1, 0, 1, 4), jt(3, 0, 3, 4), jt(9, 0, 9, 4))
	image, ok := impl.MirrorArch(a, -2)
	if !ok {
		t.Fatalf("MirrorArch(%v, -2) is false", a)
	}
	for k, want := range []int{24, 48, 144} {
		if got := impl.WeightOf(impl.StoneOf(a, k)); got != want {
			t.Errorf("the weight of stone %d is %d, want %d", k, got, want)
		}
		if got := impl.WeightOf(impl.StoneOf(image, 2-k)); got != want {
			t.Errorf("the weight of stone %d of the image is %d, want %d", 2-k, got, want)
		}
	}
}

func TestArchArgumentsUnchanged(t *testing.T) {
	list := validArches()
	for _, c := range invalidArches() {
		list = append(list, c.a)
	}
	for _, a := range list {
		// The joints in the spare capacity must stay as well.
		full := append(slices.Clone(a.Joints), jt(7, 7, 8, 8), jt(9, 7, 9, 8))
		before := slices.Clone(full)
		arg := impl.Arch{Joints: full[:len(a.Joints)]}
		impl.ArchOk(arg)
		impl.CountStones(arg)
		impl.SpanOf(arg)
		impl.RiseOf(arg)
		impl.ArchText(arg)
		spoilStone(impl.StoneOf(arg, 0))
		spoilStone(impl.StoneOf(arg, 1))
		for _, x := range []int{0, 4, 60, 61} {
			image, _ := impl.MirrorArch(arg, x)
			spoilArch(image)
		}
		if !slices.Equal(full, before) {
			t.Errorf("the joints %v became %v", before, full)
		}
	}
}

// spoilStone overwrites the memory of a result, its spare capacity too.
func spoilStone(s impl.Stone) {
	all := s.Corners[:cap(s.Corners)]
	for i := range all {
		all[i] = pt(5, 5)
	}
}

func spoilArch(a impl.Arch) {
	all := a.Joints[:cap(a.Joints)]
	for k := range all {
		all[k] = jt(5, 5, 6, 6)
	}
}

func TestArchResultsShareNoMemory(t *testing.T) {
	for _, a := range validArches() {
		want := copyOfArch(a)
		first, _ := impl.MirrorArch(a, 0)
		second, _ := impl.MirrorArch(a, 0)
		image := copyOfArch(second)
		spoilArch(first)
		if !sameArch(second, image) {
			t.Errorf("a change of one image of %v changed the other one", a)
		}
		for k := range len(a.Joints) - 1 {
			s, other, next := impl.StoneOf(a, k), impl.StoneOf(a, k), impl.StoneOf(a, k+1)
			sBefore, nextBefore := slices.Clone(other.Corners), slices.Clone(next.Corners)
			spoilStone(s)
			if !slices.Equal(other.Corners, sBefore) || !slices.Equal(next.Corners, nextBefore) {
				t.Errorf("a change of stone %d of %v changed another result", k, a)
			}
			if got := impl.StoneOf(a, k); !slices.Equal(got.Corners, sBefore) {
				t.Errorf("a change of stone %d of %v changed the next result", k, a)
			}
		}
		if !sameArch(a, want) {
			t.Errorf("the arch %v became %v", want, a)
		}
	}
}
