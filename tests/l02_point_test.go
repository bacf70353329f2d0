package tests

import (
	"math"
	"testing"

	"loop.example/g03301/impl"
)

func pt(x int, y int) impl.Point {
	return impl.Point{X: x, Y: y}
}

// validPlaces are the ordinary coordinates and the last ones within the limit.
func validPlaces() []int {
	const most = impl.MaxPlace
	return []int{-most, -most + 1, -7, -1, 0, 1, 5, most - 1, most}
}

// invalidPlaces are the first coordinates beyond the limit and the farthest ones.
func invalidPlaces() []int {
	const most = impl.MaxPlace
	return []int{-most - 1, most + 1, -1000, 1000, 1 << 32, -1 << 32, math.MinInt, math.MinInt + 1, math.MaxInt - 1, math.MaxInt}
}

func validPoints() []impl.Point {
	var list []impl.Point
	for _, x := range validPlaces() {
		for _, y := range validPlaces() {
			list = append(list, pt(x, y))
		}
	}
	return list
}

// invalidPoints have only X, only Y, or both out of range.
func invalidPoints() []impl.Point {
	var list []impl.Point
	for _, n := range invalidPlaces() {
		for _, valid := range validPlaces() {
			list = append(list, pt(n, valid), pt(valid, n))
		}
		list = append(list, pt(n, n))
	}
	return append(list, pt(math.MinInt, math.MaxInt), pt(math.MaxInt, math.MinInt))
}

func TestMaxPlace(t *testing.T) {
	if impl.MaxPlace != 60 {
		t.Errorf("MaxPlace is %d, want 60", impl.MaxPlace)
	}
}

func TestPointOk(t *testing.T) {
	for _, p := range validPoints() {
		if !impl.PointOk(p) {
			t.Errorf("PointOk(%v) is false", p)
		}
	}
	for _, p := range invalidPoints() {
		if impl.PointOk(p) {
			t.Errorf("PointOk(%v) is true", p)
		}
	}
}

func TestPointOkEveryPlace(t *testing.T) {
	for x := -70; x <= 70; x++ {
		for y := -70; y <= 70; y++ {
			want := x >= -60 && x <= 60 && y >= -60 && y <= 60
			if got := impl.PointOk(pt(x, y)); got != want {
				t.Fatalf("PointOk(%d, %d) = %v, want %v", x, y, got, want)
			}
		}
	}
}

func TestSideOf(t *testing.T) {
	cases := []struct {
		name    string
		a, b, c impl.Point
		want    int
	}{
		{"left", pt(0, 0), pt(2, 0), pt(1, 3), 6},
		{"right", pt(0, 0), pt(2, 0), pt(1, -3), -6},
		{"left of the way back", pt(2, 0), pt(0, 0), pt(1, -3), 6},
		{"left of the way up", pt(1, 1), pt(1, 4), pt(-1, 2), 6},
		{"right of the way up", pt(1, 1), pt(1, 4), pt(3, 2), -6},
		{"left of a slope", pt(-3, -5), pt(4, 2), pt(-2, 6), 70},
		{"on the way", pt(-1, -1), pt(3, 5), pt(1, 2), 0},
		{"on the way, before a", pt(0, 0), pt(2, 1), pt(-4, -2), 0},
		{"on the way, beyond b", pt(0, 0), pt(2, 1), pt(60, 30), 0},
		{"at a", pt(3, 4), pt(5, 9), pt(3, 4), 0},
		{"at b", pt(3, 4), pt(5, 9), pt(5, 9), 0},
		{"no way", pt(3, 4), pt(3, 4), pt(7, -2), 0},
		{"far to the left", pt(-60, -60), pt(60, -60), pt(60, 60), 14400},
		{"far to the right", pt(-60, -60), pt(60, 60), pt(60, -60), -14400},
	}
	for _, c := range cases {
		if got := impl.SideOf(c.a, c.b, c.c); got != c.want {
			t.Errorf("%s: SideOf(%v, %v, %v) = %d, want %d", c.name, c.a, c.b, c.c, got, c.want)
		}
	}
}

func TestSideOfFormula(t *testing.T) {
	list := validPoints()
	for i := 0; i < len(list); i += 2 {
		for k := 0; k < len(list); k += 3 {
			for _, c := range list {
				a, b := list[i], list[k]
				want := (b.X-a.X)*(c.Y-a.Y) - (b.Y-a.Y)*(c.X-a.X)
				if got := impl.SideOf(a, b, c); got != want {
					t.Fatalf("SideOf(%v, %v, %v) = %d, want %d", a, b, c, got, want)
				}
				if impl.SideOf(b, a, c) != -want || impl.SideOf(b, c, a) != want {
					t.Fatalf("SideOf of %v, %v and %v depends on more than their turn", a, b, c)
				}
			}
		}
	}
}

func TestSideOfInvalid(t *testing.T) {
	a, b, c := pt(0, 0), pt(2, 1), pt(1, 3)
	if impl.SideOf(a, b, c) == 0 {
		t.Fatal("the valid points are on one line and show nothing")
	}
	for _, p := range invalidPoints() {
		if impl.SideOf(p, b, c) != 0 || impl.SideOf(a, p, c) != 0 || impl.SideOf(a, b, p) != 0 {
			t.Errorf("SideOf is not 0 with %v as one of its points", p)
		}
	}
}

func TestMiddleTwice(t *testing.T) {
	cases := []struct {
		a, b impl.Point
		x, y int
	}{
		{pt(1, 2), pt(3, 5), 4, 7},
		{pt(3, 5), pt(1, 2), 4, 7},
		{pt(-4, 7), pt(1, -9), -3, -2},
		{pt(0, 0), pt(0, 0), 0, 0},
		{pt(5, -6), pt(5, -6), 10, -12},
		{pt(60, -60), pt(60, -60), 120, -120},
		{pt(60, -60), pt(-60, 60), 0, 0},
		{pt(59, -59), pt(60, -60), 119, -119},
	}
	for _, c := range cases {
		if x, y := impl.MiddleTwice(c.a, c.b); x != c.x || y != c.y {
			t.Errorf("MiddleTwice(%v, %v) = %d, %d, want %d, %d", c.a, c.b, x, y, c.x, c.y)
		}
	}
}

func TestSquareOf(t *testing.T) {
	cases := []struct {
		a, b impl.Point
		want int
	}{
		{pt(0, 0), pt(3, 4), 25},
		{pt(3, 4), pt(0, 0), 25},
		{pt(-2, 1), pt(3, -11), 169},
		{pt(7, -7), pt(7, -7), 0},
		{pt(0, 0), pt(1, 0), 1},
		{pt(0, 0), pt(0, -1), 1},
		{pt(-60, -60), pt(60, 60), 28800},
		{pt(60, -60), pt(-60, 60), 28800},
		{pt(-60, 0), pt(60, 0), 14400},
	}
	for _, c := range cases {
		if got := impl.SquareOf(c.a, c.b); got != c.want {
			t.Errorf("SquareOf(%v, %v) = %d, want %d", c.a, c.b, got, c.want)
		}
	}
}

func TestPairsInvalid(t *testing.T) {
	valid := pt(2, 3)
	for _, p := range invalidPoints() {
		for _, pair := range [][2]impl.Point{{p, valid}, {valid, p}, {p, p}} {
			if x, y := impl.MiddleTwice(pair[0], pair[1]); x != 0 || y != 0 {
				t.Errorf("MiddleTwice(%v, %v) = %d, %d, want 0, 0", pair[0], pair[1], x, y)
			}
			if got := impl.SquareOf(pair[0], pair[1]); got != -1 {
				t.Errorf("SquareOf(%v, %v) = %d, want -1", pair[0], pair[1], got)
			}
		}
	}
}

func TestMirrorPoint(t *testing.T) {
	cases := []struct {
		p    impl.Point
		x    int
		want impl.Point
	}{
		{pt(2, 5), 3, pt(4, 5)},
		{pt(4, 5), 3, pt(2, 5)},
		{pt(3, -8), 3, pt(3, -8)},
		{pt(2, -5), -3, pt(-8, -5)},
		{pt(0, 0), 0, pt(0, 0)},
		{pt(60, 60), 0, pt(-60, 60)},
		{pt(60, -60), 60, pt(60, -60)},
		{pt(-60, 1), -60, pt(-60, 1)},
		{pt(0, 9), 30, pt(60, 9)},
		{pt(-1, 9), 30, pt(61, 9)},
		{pt(-60, 7), 60, pt(180, 7)},
		{pt(60, 7), -60, pt(-180, 7)},
		{pt(59, 0), -1, pt(-61, 0)},
	}
	for _, c := range cases {
		if got := impl.MirrorPoint(c.p, c.x); got != c.want {
			t.Errorf("MirrorPoint(%v, %d) = %v, want %v", c.p, c.x, got, c.want)
		}
	}
}

func TestMirrorPointInvalid(t *testing.T) {
	for _, p := range invalidPoints() {
		for _, x := range append(validPlaces(), invalidPlaces()...) {
			if got := impl.MirrorPoint(p, x); got != p {
				t.Errorf("MirrorPoint(%v, %d) = %v, want the point unchanged", p, x, got)
			}
		}
	}
	for _, p := range validPoints() {
		for _, x := range invalidPlaces() {
			if got := impl.MirrorPoint(p, x); got != p {
				t.Errorf("MirrorPoint(%v, %d) = %v, want the point unchanged", p, x, got)
			}
		}
	}
}

func TestMirrorTwice(t *testing.T) {
	for _, p := range validPoints() {
		for x := -impl.MaxPlace; x <= impl.MaxPlace; x++ {
			image := impl.MirrorPoint(p, x)
			if image.Y != p.Y || image.X-x != x-p.X {
				t.Fatalf("MirrorPoint(%v, %d) = %v: not as far on the other side", p, x, image)
			}
			// An image out of range is not a valid point, so it comes back unchanged.
			want := p
			if !impl.PointOk(image) {
				want = image
			}
			if got := impl.MirrorPoint(image, x); got != want {
				t.Fatalf("MirrorPoint(%v, %d) = %v, want %v", image, x, got, want)
			}
		}
	}
}

// What is to the left of a way is to the right of its mirror image, just as
// far, and distances stay the same.
func TestMirrorExchangesSides(t *testing.T) {
	places := []int{-20, -7, 0, 3, 20}
	var list []impl.Point
	for _, x := range places {
		for _, y := range places {
			list = append(list, pt(x, y))
		}
	}
	for _, x := range []int{-20, -1, 0, 8, 20} {
		for _, a := range list {
			for _, b := range list {
				ma, mb := impl.MirrorPoint(a, x), impl.MirrorPoint(b, x)
				if got, want := impl.SquareOf(ma, mb), impl.SquareOf(a, b); got != want {
					t.Fatalf("mirror at %d: SquareOf(%v, %v) = %d, want %d", x, ma, mb, got, want)
				}
				for _, c := range list {
					mc := impl.MirrorPoint(c, x)
					if got, want := impl.SideOf(ma, mb, mc), -impl.SideOf(a, b, c); got != want {
						t.Fatalf("mirror at %d: SideOf(%v, %v, %v) = %d, want %d", x, ma, mb, mc, got, want)
					}
				}
			}
		}
	}
}

// A point and its image have their middle on the mirror.
func TestMirrorMiddle(t *testing.T) {
	for _, p := range validPoints() {
		for _, x := range validPlaces() {
			image := impl.MirrorPoint(p, x)
			if !impl.PointOk(image) {
				continue
			}
			if mx, my := impl.MiddleTwice(p, image); mx != 2*x || my != 2*p.Y {
				t.Errorf("MiddleTwice(%v, %v) = %d, %d, want %d, %d", p, image, mx, my, 2*x, 2*p.Y)
			}
		}
	}
}

func TestPointText(t *testing.T) {
	cases := []struct {
		p    impl.Point
		want string
	}{
		{pt(2, -5), "2,-5"},
		{pt(0, 0), "0,0"},
		{pt(0, 7), "0,7"},
		{pt(-1, 0), "-1,0"},
		{pt(-10, -9), "-10,-9"},
		{pt(60, -60), "60,-60"},
		{pt(-60, 60), "-60,60"},
		{pt(-59, 59), "-59,59"},
	}
	for _, c := range cases {
		if got := impl.PointText(c.p); got != c.want {
			t.Errorf("PointText(%v) = %q, want %q", c.p, got, c.want)
		}
	}
	for _, p := range invalidPoints() {
		if got := impl.PointText(p); got != "" {
			t.Errorf("PointText(%v) = %q, want \"\"", p, got)
		}
	}
}
