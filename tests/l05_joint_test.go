package tests

import (
	"slices"
	"testing"

	"loop.example/g03301/impl"
)

// jt is the joint from Inner at x, y to Outer at u, v.
func jt(x int, y int, u int, v int) impl.Joint {
	return impl.Joint{Inner: pt(x, y), Outer: pt(u, v)}
}

// turned is the joint with its ends exchanged.
func turned(j impl.Joint) impl.Joint {
	return impl.Joint{Inner: j.Outer, Outer: j.Inner}
}

func flatJoints() []impl.Joint {
	return []impl.Joint{
		jt(0, 0, 4, 0),
		jt(4, 0, 0, 0),
		jt(-3, 7, -4, 7),
		jt(-9, -5, 8, -5),
		jt(60, 60, -60, 60),
		jt(-60, -60, 60, -60),
		jt(59, 0, 60, 0),
	}
}

// steepJoints are the upright joints and those on a slope.
func steepJoints() []impl.Joint {
	return []impl.Joint{
		jt(0, 0, 0, 4),
		jt(0, 4, 0, 0),
		jt(-7, -2, -7, -1),
		jt(60, -60, 60, 60),
		jt(-60, 60, -60, -60),
		jt(0, 0, -2, 3),
		jt(1, 1, 3, 5),
		jt(6, 3, -6, -3),
		jt(-8, 5, 4, -4),
		jt(0, 0, 60, 1),
		jt(0, 0, 1, 60),
		jt(-60, -60, 60, 60),
		jt(60, -60, -60, 60),
	}
}

func validJoints() []impl.Joint {
	return append(flatJoints(), steepJoints()...)
}

// invalidJoints have the same point twice, or either point out of range.
func invalidJoints() []impl.Joint {
	list := []impl.Joint{{}}
	for _, p := range validPoints() {
		list = append(list, impl.Joint{Inner: p, Outer: p})
	}
	for _, p := range invalidPoints() {
		list = append(list, impl.Joint{Inner: p, Outer: p})
		for _, q := range []impl.Point{pt(0, 0), pt(-3, 7), pt(60, -60)} {
			list = append(list, impl.Joint{Inner: p, Outer: q}, impl.Joint{Inner: q, Outer: p})
		}
	}
	return list
}

func TestJointOk(t *testing.T) {
	for _, j := range validJoints() {
		if !impl.JointOk(j) {
			t.Errorf("JointOk(%v) is false", j)
		}
		if !impl.JointOk(turned(j)) {
			t.Errorf("JointOk(%v) is false", turned(j))
		}
	}
	for _, j := range invalidJoints() {
		if impl.JointOk(j) {
			t.Errorf("JointOk(%v) is true", j)
		}
	}
}

func TestJointOkEveryPair(t *testing.T) {
	list := append(validPoints(), invalidPoints()...)
	for _, p := range list {
		for _, q := range list {
			want := impl.PointOk(p) && impl.PointOk(q) && (p.X != q.X || p.Y != q.Y)
			if got := impl.JointOk(impl.Joint{Inner: p, Outer: q}); got != want {
				t.Fatalf("JointOk of %v and %v = %v, want %v", p, q, got, want)
			}
		}
	}
}

// Each coordinate in turn is at the limit and one beyond it.
func TestJointOkLimits(t *testing.T) {
	for _, sign := range []int{1, -1} {
		at, beyond := sign*impl.MaxPlace, sign*(impl.MaxPlace+1)
		for _, j := range []impl.Joint{jt(at, 1, 2, 3), jt(1, at, 2, 3), jt(1, 2, at, 3), jt(1, 2, 3, at)} {
			if !impl.JointOk(j) {
				t.Errorf("JointOk(%v) is false", j)
			}
		}
		for _, j := range []impl.Joint{jt(beyond, 1, 2, 3), jt(1, beyond, 2, 3), jt(1, 2, beyond, 3), jt(1, 2, 3, beyond)} {
			if impl.JointOk(j) {
				t.Errorf("JointOk(%v) is true", j)
			}
		}
	}
}

func TestIsOnJoint(t *testing.T) {
	cases := []struct {
		name string
		j    impl.Joint
		p    impl.Point
		want bool
	}{
		{"at Inner", jt(1, 1, 3, 5), pt(1, 1), true},
		{"at Outer", jt(1, 1, 3, 5), pt(3, 5), true},
		{"in the middle", jt(1, 1, 3, 5), pt(2, 3), true},
		{"on the line, before Inner", jt(1, 1, 3, 5), pt(0, -1), false},
		{"on the line, beyond Outer", jt(1, 1, 3, 5), pt(4, 7), false},
		{"just left of the middle", jt(1, 1, 3, 5), pt(1, 3), false},
		{"just right of the middle", jt(1, 1, 3, 5), pt(3, 3), false},
		{"just above the middle", jt(1, 1, 3, 5), pt(2, 4), false},
		{"just below the middle", jt(1, 1, 3, 5), pt(2, 2), false},
		{"at another corner of the box", jt(1, 1, 3, 5), pt(3, 1), false},
		{"down to the left, between", jt(6, 3, -6, -3), pt(-2, -1), true},
		{"down to the left, beyond Inner", jt(6, 3, -6, -3), pt(8, 4), false},
		{"down to the left, beyond Outer", jt(6, 3, -6, -3), pt(-8, -4), false},
		{"down to the right, between", jt(-8, 5, 4, -4), pt(-4, 2), true},
		{"down to the right, beside", jt(-8, 5, 4, -4), pt(-4, 3), false},
		{"upright, between", jt(0, 0, 0, 4), pt(0, 2), true},
		{"upright, beyond Outer", jt(0, 0, 0, 4), pt(0, 5), false},
		{"upright, beyond Inner", jt(0, 0, 0, 4), pt(0, -1), false},
		{"upright, to the right", jt(0, 0, 0, 4), pt(1, 2), false},
		{"upright, to the left", jt(0, 0, 0, 4), pt(-1, 2), false},
		{"upright downwards, between", jt(0, 4, 0, 0), pt(0, 3), true},
		{"upright downwards, beyond Inner", jt(0, 4, 0, 0), pt(0, 5), false},
		{"flat to the right, between", jt(0, 0, 4, 0), pt(1, 0), true},
		{"flat to the right, beyond Outer", jt(0, 0, 4, 0), pt(5, 0), false},
		{"flat to the right, beyond Inner", jt(0, 0, 4, 0), pt(-1, 0), false},
		{"flat to the right, above", jt(0, 0, 4, 0), pt(1, 1), false},
		{"flat to the left, between", jt(4, 0, 0, 0), pt(3, 0), true},
		{"flat to the left, beyond Inner", jt(4, 0, 0, 0), pt(5, 0), false},
		{"flat to the left, below", jt(4, 0, 0, 0), pt(3, -1), false},
		{"nearly flat, near its end", jt(0, 0, 60, 1), pt(59, 1), false},
		{"nearly upright, near its end", jt(0, 0, 1, 60), pt(1, 59), false},
		{"at MaxPlace", jt(0, 0, 60, 60), pt(60, 60), true},
		{"on the line, out of range", jt(0, 0, 60, 60), pt(61, 61), false},
		{"on the flat line, out of range", jt(0, 0, 60, 0), pt(61, 0), false},
		{"on the upright line, out of range", jt(0, 0, 0, -60), pt(0, -61), false},
		{"the same points", jt(3, 4, 3, 4), pt(3, 4), false},
		{"the zero Joint", impl.Joint{}, pt(0, 0), false},
		{"Inner out of range, at Outer", jt(61, 0, 5, 0), pt(5, 0), false},
		{"Inner out of range, between", jt(61, 0, 5, 0), pt(7, 0), false},
		{"Inner out of range, at Inner", jt(61, 0, 5, 0), pt(61, 0), false},
		{"Outer out of range, at Inner", jt(0, 5, 0, -61), pt(0, 5), false},
		{"Outer out of range, between", jt(0, 5, 0, -61), pt(0, 1), false},
		{"Outer out of range, at Outer", jt(0, 5, 0, -61), pt(0, -61), false},
	}
	for _, c := range cases {
		if got := impl.IsOnJoint(c.j, c.p); got != c.want {
			t.Errorf("%s: IsOnJoint(%v, %v) = %v, want %v", c.name, c.j, c.p, got, c.want)
		}
		if got := impl.IsOnJoint(turned(c.j), c.p); got != c.want {
			t.Errorf("%s: IsOnJoint(%v, %v) = %v, want %v", c.name, turned(c.j), c.p, got, c.want)
		}
	}
}

// wayOf is the shortest whole step from Inner towards Outer, and how many of
// them lead there.
func wayOf(j impl.Joint) (step impl.Point, count int) {
	dx, dy := j.Outer.X-j.Inner.X, j.Outer.Y-j.Inner.Y
	a, b := max(dx, -dx), max(dy, -dy)
	for b != 0 {
		a, b = b, a%b
	}
	return pt(dx/a, dy/a), a
}

func TestIsOnJointEveryPoint(t *testing.T) {
	for _, j := range validJoints() {
		on := map[impl.Point]bool{}
		step, count := wayOf(j)
		for k := range count + 1 {
			on[pt(j.Inner.X+k*step.X, j.Inner.Y+k*step.Y)] = true
		}
		for x := -63; x <= 63; x++ {
			for y := -63; y <= 63; y++ {
				if got := impl.IsOnJoint(j, pt(x, y)); got != on[pt(x, y)] {
					t.Fatalf("IsOnJoint(%v, %v) = %v, want %v", j, pt(x, y), got, on[pt(x, y)])
				}
			}
		}
	}
}

func TestIsOnJointInvalid(t *testing.T) {
	for _, j := range validJoints() {
		for _, p := range invalidPoints() {
			if impl.IsOnJoint(j, p) {
				t.Errorf("IsOnJoint(%v, %v) is true", j, p)
			}
		}
	}
	for _, j := range invalidJoints() {
		for _, p := range []impl.Point{j.Inner, j.Outer, pt(0, 0), pt(1, 1), pt(-2, 5)} {
			if impl.IsOnJoint(j, p) {
				t.Errorf("IsOnJoint(%v, %v) is true", j, p)
			}
		}
	}
}

// Promise 5, its first part.
func TestBothEndsAreOnJoint(t *testing.T) {
	list := validPoints()
	for _, p := range list {
		for _, q := range list {
			j := impl.Joint{Inner: p, Outer: q}
			want := p != q
			if impl.IsOnJoint(j, p) != want || impl.IsOnJoint(j, q) != want {
				t.Fatalf("IsOnJoint(%v, one of its ends) is not %v", j, want)
			}
			if impl.JointOk(j) != want {
				t.Fatalf("JointOk(%v) is not %v", j, want)
			}
		}
	}
}

func TestMirrorJoint(t *testing.T) {
	cases := []struct {
		name string
		j    impl.Joint
		x    int
		want impl.Joint
	}{
		{"upright, on the mirror", jt(4, 0, 4, 4), 4, jt(4, 0, 4, 4)},
		{"upright, beside the mirror", jt(4, 0, 4, 4), 1, jt(-2, 0, -2, 4)},
		{"flat", jt(1, -3, 5, -3), -2, jt(-5, -3, -9, -3)},
		{"a slope", jt(0, 0, -2, 3), 0, jt(0, 0, 2, 3)},
		{"across the mirror", jt(-1, 2, 4, 6), 1, jt(3, 2, -2, 6)},
		{"to MaxPlace", jt(0, 1, -10, 2), 25, jt(50, 1, 60, 2)},
		{"from MaxPlace", jt(60, 1, 50, 2), 0, jt(-60, 1, -50, 2)},
		{"Inner out of range afterwards", jt(-11, 2, 0, 1), 25, jt(61, 2, 50, 1)},
		{"Outer out of range afterwards", jt(0, 1, -11, 2), 25, jt(50, 1, 61, 2)},
		{"both out of range afterwards", jt(-60, 0, -60, 5), 60, jt(180, 0, 180, 5)},
		{"the mirror at MaxPlace", jt(60, 0, 59, 5), 60, jt(60, 0, 61, 5)},
		{"the mirror at -MaxPlace", jt(-60, 0, -59, 5), -60, jt(-60, 0, -61, 5)},
		{"the mirror beyond MaxPlace", jt(1, 2, 3, 4), 61, jt(1, 2, 3, 4)},
		{"the mirror beyond -MaxPlace", jt(1, 2, 3, 4), -61, jt(1, 2, 3, 4)},
		{"Inner out of range", jt(61, 2, 3, 4), 0, jt(61, 2, -3, 4)},
		{"Outer out of range", jt(3, 4, 5, -61), 0, jt(-3, 4, 5, -61)},
		{"both out of range", jt(61, 2, 5, -61), 0, jt(61, 2, 5, -61)},
		{"the same points", jt(3, 4, 3, 4), 1, jt(-1, 4, -1, 4)},
		{"the zero Joint", impl.Joint{}, 3, jt(6, 0, 6, 0)},
	}
	for _, c := range cases {
		if got := impl.MirrorJoint(c.j, c.x); got != c.want {
			t.Errorf("%s: MirrorJoint(%v, %d) = %v, want %v", c.name, c.j, c.x, got, c.want)
		}
		if got := impl.MirrorJoint(turned(c.j), c.x); got != turned(c.want) {
			t.Errorf("%s: MirrorJoint(%v, %d) = %v, want %v", c.name, turned(c.j), c.x, got, turned(c.want))
		}
	}
}

func TestMirrorJointOfBothPoints(t *testing.T) {
	for _, j := range append(validJoints(), invalidJoints()...) {
		for _, x := range append(validPlaces(), invalidPlaces()...) {
			want := impl.Joint{Inner: impl.MirrorPoint(j.Inner, x), Outer: impl.MirrorPoint(j.Outer, x)}
			if got := impl.MirrorJoint(j, x); got != want {
				t.Fatalf("MirrorJoint(%v, %d) = %v, want %v", j, x, got, want)
			}
		}
		for _, x := range invalidPlaces() {
			if got := impl.MirrorJoint(j, x); got != j {
				t.Fatalf("MirrorJoint(%v, %d) = %v, want the joint unchanged", j, x, got)
			}
		}
	}
}

func TestMirrorJointTwice(t *testing.T) {
	for _, j := range validJoints() {
		for x := -impl.MaxPlace; x <= impl.MaxPlace; x++ {
			image := impl.MirrorJoint(j, x)
			// A point whose image is out of range does not come back.
			want := j
			if !impl.PointOk(image.Inner) {
				want.Inner = image.Inner
			}
			if !impl.PointOk(image.Outer) {
				want.Outer = image.Outer
			}
			if got := impl.MirrorJoint(image, x); got != want {
				t.Fatalf("MirrorJoint(%v, %d) = %v, want %v", image, x, got, want)
			}
			if impl.JointOk(image) != (want == j) {
				t.Fatalf("JointOk(%v) is %v", image, impl.JointOk(image))
			}
		}
	}
}

// What is on a joint is on its image as well.
func TestMirrorJointKeepsPoints(t *testing.T) {
	for _, j := range validJoints() {
		for _, x := range []int{-3, 0, 4} {
			image := impl.MirrorJoint(j, x)
			if !impl.JointOk(image) {
				continue
			}
			if impl.IsFlat(image) != impl.IsFlat(j) {
				t.Errorf("IsFlat(%v) differs from that of its image", j)
			}
			for _, p := range validPoints() {
				q := impl.MirrorPoint(p, x)
				if impl.PointOk(q) && impl.IsOnJoint(image, q) != impl.IsOnJoint(j, p) {
					t.Fatalf("IsOnJoint(%v, %v) differs from that of the images at %d", j, p, x)
				}
			}
		}
	}
}

func TestIsFlat(t *testing.T) {
	for _, j := range flatJoints() {
		if !impl.IsFlat(j) || !impl.IsFlat(turned(j)) {
			t.Errorf("IsFlat(%v) is false in one direction", j)
		}
	}
	for _, j := range append(steepJoints(), jt(0, 0, 60, 1), jt(-60, -59, 60, -60), jt(0, 5, 9, -5)) {
		if impl.IsFlat(j) || impl.IsFlat(turned(j)) {
			t.Errorf("IsFlat(%v) is true in one direction", j)
		}
	}
	// Many of these have the same Y twice.
	for _, j := range append(invalidJoints(), jt(61, 0, 0, 0), jt(0, 0, -61, 0), jt(0, 61, 5, 61), jt(5, -61, 0, -61)) {
		if impl.IsFlat(j) {
			t.Errorf("IsFlat(%v) is true", j)
		}
	}
}

func TestJointText(t *testing.T) {
	cases := []struct {
		j    impl.Joint
		want string
	}{
		{jt(0, 0, 0, 4), "0,0-0,4"},
		{jt(0, 4, 0, 0), "0,4-0,0"},
		{jt(0, 0, -2, 3), "0,0--2,3"},
		{jt(5, 2, 4, 6), "5,2-4,6"},
		{jt(-1, 2, 3, 4), "-1,2-3,4"},
		{jt(1, -2, 3, 4), "1,-2-3,4"},
		{jt(1, 2, 3, -4), "1,2-3,-4"},
		{jt(-1, -2, -3, -4), "-1,-2--3,-4"},
		{jt(60, -60, -60, 60), "60,-60--60,60"},
		{jt(-60, -59, 10, -10), "-60,-59-10,-10"},
	}
	for _, c := range cases {
		if got := impl.JointText(c.j); got != c.want {
			t.Errorf("JointText(%v) = %q, want %q", c.j, got, c.want)
		}
	}
	for _, j := range invalidJoints() {
		if got := impl.JointText(j); got != "" {
			t.Errorf("JointText(%v) = %q, want \"\"", j, got)
		}
	}
}

// checkBetween compares StoneBetween with the stone of the given corners, of
// which none means that there is no stone.
func checkBetween(t *testing.T, a impl.Joint, b impl.Joint, want impl.Stone) {
	t.Helper()
	got, ok := impl.StoneBetween(a, b)
	if ok != (len(want.Corners) > 0) || !sameStone(got, want) {
		t.Fatalf("StoneBetween(%v, %v) = %v, %v, want %v", a, b, got, ok, want)
	}
}

func TestStoneBetween(t *testing.T) {
	none := impl.Stone{}
	cases := []struct {
		name string
		a, b impl.Joint
		want impl.Stone
	}{
		{"upright joints", jt(0, 0, 0, 4), jt(4, 0, 4, 4), stone(0, 0, 4, 0, 4, 4, 0, 4)},
		{"upright joints exchanged", jt(4, 0, 4, 4), jt(0, 0, 0, 4), none},
		{"joints on slopes", jt(0, 0, -2, 3), jt(5, 2, 4, 6), stone(0, 0, 5, 2, 4, 6, -2, 3)},
		{"joints on slopes exchanged", jt(5, 2, 4, 6), jt(0, 0, -2, 3), none},
		{"a flat joint first", jt(0, 0, -4, 0), jt(1, 3, -1, 6), stone(0, 0, 1, 3, -1, 6, -4, 0)},
		{"flat joints, one over the other", jt(0, 0, -4, 0), jt(0, 3, -4, 3), stone(0, 0, 0, 3, -4, 3, -4, 0)},
		{"the ends of the first one exchanged", jt(0, 4, 0, 0), jt(4, 0, 4, 4), none},
		{"the ends of the second one exchanged", jt(0, 0, 0, 4), jt(4, 4, 4, 0), none},
		{"the ends of both exchanged", jt(0, 4, 0, 0), jt(4, 4, 4, 0), none},
		{"the same joint twice", jt(0, 0, 0, 4), jt(0, 0, 0, 4), none},
		{"the same joint there and back", jt(0, 0, 0, 4), jt(0, 4, 0, 0), none},
		{"the same Inner", jt(0, 0, -2, 3), jt(0, 0, 2, 3), none},
		{"the same Outer", jt(-2, 0, 0, 3), jt(2, 0, 0, 3), none},
		{"Outer of the first one is Inner of the second one", jt(0, 0, 2, 2), jt(2, 2, 4, 5), none},
		{"Inner of the first one is Outer of the second one", jt(0, 0, -2, 3), jt(5, 1, 0, 0), none},
		{"joints that cross", jt(0, 0, 4, 4), jt(4, 0, 0, 4), none},
		{"joints on one line", jt(0, 0, 0, 4), jt(0, 5, 0, 9), none},
		{"Inner in line with the second joint", jt(0, 0, 0, 4), jt(2, 0, 4, 0), none},
		{"a dent", jt(0, 0, 0, 4), jt(4, 0, 1, 1), none},
		{"the first joint is a point", jt(0, 0, 0, 0), jt(4, 0, 4, 4), none},
		{"the second joint is a point", jt(0, 0, 0, 4), jt(4, 2, 4, 2), none},
		{"zero Joints", impl.Joint{}, impl.Joint{}, none},
		{"the greatest stone", jt(-60, -60, -60, 60), jt(60, -60, 60, 60), stone(-60, -60, 60, -60, 60, 60, -60, 60)},
	}
	for _, c := range cases {
		t.Run(c.name, func(t *testing.T) { checkBetween(t, c.a, c.b, c.want) })
	}
}

func TestStoneBetweenSmallJoints(t *testing.T) {
	found := 0
	everyList(4, func(list []impl.Point) {
		a := impl.Joint{Inner: list[0], Outer: list[3]}
		b := impl.Joint{Inner: list[1], Outer: list[2]}
		if !isStoneByText(list) {
			checkBetween(t, a, b, impl.Stone{})
			return
		}
		found++
		checkBetween(t, a, b, impl.Stone{Corners: list})
		checkBetween(t, b, a, impl.Stone{})
	})
	if found == 0 {
		t.Error("no stone was tried")
	}
}

// Each point of the joints is out of range in turn.
func TestStoneBetweenInvalid(t *testing.T) {
	left, right := jt(0, 0, -2, 3), jt(5, 2, 4, 6)
	if _, ok := impl.StoneBetween(left, right); !ok {
		t.Fatal("the valid joints have no stone between them and show nothing")
	}
	for _, p := range invalidPoints() {
		checkBetween(t, impl.Joint{Inner: p, Outer: left.Outer}, right, impl.Stone{})
		checkBetween(t, impl.Joint{Inner: left.Inner, Outer: p}, right, impl.Stone{})
		checkBetween(t, left, impl.Joint{Inner: p, Outer: right.Outer}, impl.Stone{})
		checkBetween(t, left, impl.Joint{Inner: right.Inner, Outer: p}, impl.Stone{})
	}
	// These would be stones if the limit were one greater.
	checkBetween(t, jt(-61, -60, -60, 60), jt(60, -60, 60, 60), impl.Stone{})
	checkBetween(t, jt(-60, -60, -60, 61), jt(60, -60, 60, 60), impl.Stone{})
	checkBetween(t, jt(-60, -60, -60, 60), jt(60, -61, 60, 60), impl.Stone{})
	checkBetween(t, jt(-60, -60, -60, 60), jt(60, -60, 61, 60), impl.Stone{})
}

// builtArches are lists of joints, from one abutment to the other one.
func builtArches() [][]impl.Joint {
	return [][]impl.Joint{
		{jt(0, 0, -2, 3), jt(5, 2, 4, 6), jt(11, 2, 12, 6), jt(16, 0, 18, 3)},
		{jt(-9, 0, -12, 0), jt(-6, 6, -8, 8), jt(0, 9, 0, 12), jt(6, 6, 8, 8), jt(9, 0, 12, 0)},
		{jt(0, 0, 0, 4), jt(4, 0, 4, 4), jt(8, 0, 8, 4)},
		{jt(-60, -60, -60, 60), jt(0, -60, 0, 60), jt(60, -60, 60, 60)},
	}
}

// Promise 5, its second part: the stone has both joints as its ends, and lies
// to the right of the first one and to the left of the second one.
func TestStoneLiesBetweenJoints(t *testing.T) {
	for _, arch := range builtArches() {
		for k := range len(arch) - 1 {
			a, b := arch[k], arch[k+1]
			s, ok := impl.StoneBetween(a, b)
			if !ok || !impl.StoneOk(s) {
				t.Fatalf("there is no stone between %v and %v", a, b)
			}
			if !sameStone(s, impl.Stone{Corners: []impl.Point{a.Inner, b.Inner, b.Outer, a.Outer}}) {
				t.Fatalf("StoneBetween(%v, %v) = %v", a, b, s)
			}
			for x := -impl.MaxPlace; x <= impl.MaxPlace; x++ {
				for y := -impl.MaxPlace; y <= impl.MaxPlace; y++ {
					p := pt(x, y)
					isIn := impl.IsInStone(s, p)
					if (impl.IsOnJoint(a, p) || impl.IsOnJoint(b, p)) && !isIn {
						t.Fatalf("the point %v of a joint is not in the stone %v", p, s)
					}
					if isIn && (impl.SideOf(a.Inner, a.Outer, p) > 0 || impl.SideOf(b.Inner, b.Outer, p) < 0) {
						t.Fatalf("the stone %v is not between its joints at %v", s, p)
					}
				}
			}
		}
	}
}

// The images of the joints, in the other order, have the image of the stone
// between them.
func TestStoneBetweenMirroredJoints(t *testing.T) {
	mirrored := 0
	for _, arch := range builtArches() {
		for k := range len(arch) - 1 {
			s, _ := impl.StoneBetween(arch[k], arch[k+1])
			for x := -impl.MaxPlace; x <= impl.MaxPlace; x++ {
				a, b := impl.MirrorJoint(arch[k+1], x), impl.MirrorJoint(arch[k], x)
				image := impl.MirrorStone(s, x)
				if len(image.Corners) > 0 {
					mirrored++
					image = rotated(image, 2)
				}
				checkBetween(t, a, b, image)
			}
		}
	}
	if mirrored == 0 {
		t.Error("no image was tried")
	}
}

func TestStoneBetweenSharesNoMemory(t *testing.T) {
	a, b := jt(0, 0, -2, 3), jt(5, 2, 4, 6)
	want := stone(0, 0, 5, 2, 4, 6, -2, 3)
	first, _ := impl.StoneBetween(a, b)
	second, _ := impl.StoneBetween(a, b)
	spare := first.Corners[:cap(first.Corners)]
	for i := range spare {
		spare[i] = pt(9, 9)
	}
	first.Corners = append(first.Corners, slices.Repeat([]impl.Point{pt(8, 8)}, 4)...)
	third, _ := impl.StoneBetween(a, b)
	if !sameStone(second, want) || !sameStone(third, want) {
		t.Errorf("a change of one result made the others %v and %v, want %v", second, third, want)
	}
}
