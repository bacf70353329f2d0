package tests

import (
	"math"
	"math/big"
	"math/rand"
	"slices"
	"sync"
	"testing"

	"loop.example/g03301/impl"
)

// thrustLine is all that Chapter 14 says of a thrust. Where PlacesOf is nil,
// there is no margin, and highest is -1.
type thrustLine struct {
	places  [][]int
	margin  *big.Rat
	highest int
	touched []int
}

func noLine() thrustLine {
	return thrustLine{highest: -1}
}

// raised is an arch of two stones with the joint between them 2 higher: one
// thrust passes the middle of all joints.
func raised() impl.Arch {
	return archOf(jt(0, 0, 0, 4), jt(4, 2, 4, 6), jt(8, 0, 8, 4))
}

// slanted is an arch of two equal stones whose joints lean all alike: a great
// push passes all of them at nearly the same place.
func slanted() impl.Arch {
	return archOf(jt(0, 0, 1, 4), jt(4, 0, 5, 4), jt(8, 0, 9, 4))
}

// diagonal is an arch with the longest joints that there can be: a great force
// downwards passes them with the greatest moments.
func diagonal() impl.Arch {
	return archOf(jt(-60, -60, 60, 60), jt(-59, -60, 60, 59), jt(-58, -60, 60, 58))
}

// lineByText follows the sentences of the document.
func lineByText(a impl.Arch, loads []impl.Load, x impl.Thrust) thrustLine {
	l := noLine()
	var highest *big.Rat
	for k := range a.Joints {
		p := passingByText(a, loads, x, k)
		if p.whole == 0 {
			return noLine()
		}
		l.places = append(l.places, []int{p.part, p.whole})
		for _, distance := range []*big.Rat{quotient(p.part, p.whole), quotient(p.whole-p.part, p.whole)} {
			if l.margin == nil || distance.Cmp(l.margin) < 0 {
				l.margin = distance
			}
			if distance.Sign() == 0 {
				l.touched = append(l.touched, k)
			}
		}
		if place := quotient(p.part, p.whole); highest == nil || place.Cmp(highest) > 0 {
			highest, l.highest = place, k
		}
	}
	return l
}

// isInMiddleByText reports whether l keeps a part in n of each joint on both sides.
func (l thrustLine) isInMiddleByText(n int) bool {
	return 2 <= n && n <= 100 && l.margin != nil && l.margin.Cmp(quotient(1, n)) >= 0
}

// someParts are numbers of parts around the one that just fits l, and others.
func someParts(l thrustLine) []int {
	list := []int{math.MinInt, -3, -1, 0, 1, 2, 3, 99, 100, 101, 1000, math.MaxInt}
	if l.margin != nil && l.margin.Sign() > 0 {
		fitting := new(big.Int).Div(l.margin.Denom(), l.margin.Num())
		if fitting.IsInt64() && fitting.Int64() < math.MaxInt32 {
			n := int(fitting.Int64())
			list = append(list, n-1, n, n+1, n+2)
		}
	}
	return list
}

func sameLists(a [][]int, b [][]int) bool {
	return slices.EqualFunc(a, b, slices.Equal[[]int])
}

// checkMargin tests MarginOf, and TouchedJoints against it.
func checkMargin(t *testing.T, a impl.Arch, loads []impl.Load, x impl.Thrust, want thrustLine) {
	t.Helper()
	num, den, ok := impl.MarginOf(a, loads, x)
	if want.margin == nil {
		if num != 0 || den != 0 || ok {
			t.Fatalf("MarginOf(%v, %v, %v) = %d, %d, %v, want nothing", a, loads, x, num, den, ok)
		}
	} else if !ok || want.margin.Num().Cmp(big.NewInt(int64(num))) != 0 || want.margin.Denom().Cmp(big.NewInt(int64(den))) != 0 {
		t.Fatalf("MarginOf(%v, %v, %v) = %d, %d, %v, want %v", a, loads, x, num, den, ok, want.margin)
	}
	touched := impl.TouchedJoints(a, loads, x)
	if !slices.Equal(touched, want.touched) {
		t.Fatalf("TouchedJoints(%v, %v, %v) = %v, want %v", a, loads, x, touched, want.touched)
	}
	if touches := ok && num == 0; touches != (len(touched) > 0) {
		t.Fatalf("%v touches joints %v of %v with %v, and its margin is %d, %d, %v", x, touched, a, loads, num, den, ok)
	}
}

// checkPlaces tests PlacesOf, and against PlaceAt joint by joint.
func checkPlaces(t *testing.T, a impl.Arch, loads []impl.Load, x impl.Thrust, want thrustLine) {
	t.Helper()
	places := impl.PlacesOf(a, loads, x)
	if !sameLists(places, want.places) {
		t.Fatalf("PlacesOf(%v, %v, %v) = %v, want %v", a, loads, x, places, want.places)
	}
	passed := 0
	for k := range a.Joints {
		num, den, ok := impl.PlaceAt(a, loads, x, k)
		if ok {
			passed++
		}
		if len(places) > 0 && (!ok || places[k][0] != num || places[k][1] != den) {
			t.Fatalf("PlaceAt(%v, %v, %v, %d) = %d, %d, %v, and PlacesOf %v", a, loads, x, k, num, den, ok, places)
		}
	}
	if len(places) == 0 && passed > 0 && passed == len(a.Joints) {
		t.Fatalf("PlacesOf(%v, %v, %v) is nil, but there are places at all joints", a, loads, x)
	}
}

// checkLine tests all five functions.
func checkLine(t *testing.T, a impl.Arch, loads []impl.Load, x impl.Thrust, want thrustLine) {
	t.Helper()
	checkPlaces(t, a, loads, x, want)
	checkMargin(t, a, loads, x, want)
	if got := impl.HighestJoint(a, loads, x); got != want.highest {
		t.Fatalf("HighestJoint(%v, %v, %v) = %d, want %d", a, loads, x, got, want.highest)
	}
	for _, n := range someParts(want) {
		if got := impl.InMiddle(a, loads, x, n); got != want.isInMiddleByText(n) {
			t.Fatalf("InMiddle(%v, %v, %v, %d) = %v, and the margin is %v", a, loads, x, n, got, want.margin)
		}
	}
}

func checkLineByText(t *testing.T, a impl.Arch, loads []impl.Load, x impl.Thrust) thrustLine {
	t.Helper()
	want := lineByText(a, loads, x)
	checkLine(t, a, loads, x, want)
	return want
}

// lineCase is a thrust that passes all joints. fewest is the least n for which
// InMiddle holds, or 0.
type lineCase struct {
	name     string
	a        impl.Arch
	loads    []impl.Load
	x        impl.Thrust
	places   [][]int
	num, den int
	fewest   int
	highest  int
	touched  []int
}

func (c lineCase) want() thrustLine {
	return thrustLine{c.places, quotient(c.num, c.den), c.highest, c.touched}
}

// row is the places at three joints.
func row(a int, b int, c int, d int, e int, f int) [][]int {
	return [][]int{{a, b}, {c, d}, {e, f}}
}

// touchingCases are thrusts that touch joints: at Inner, at Outer, at both.
func touchingCases() []lineCase {
	flat, sample := upright(3, 0, 4), archCases()[4].a
	right := []impl.Load{ld(1, 10, 5)}
	two := []impl.Load{ld(0, 43, -4), ld(5, 43, 4)}
	return []lineCase{
		{"Inner and Outer", flat, nil, th(48, 96, 0, 1), row(0, 1, 1, 1, 0, 1), 0, 1, 0, 1, []int{0, 1, 2}},
		{"Inner at the first joint", flat, nil, th(96, 97, 0, 1), row(0, 1, 49, 96, 1, 48), 0, 1, 0, 1, []int{0}},
		{"Inner at the last joint", flat, nil, th(96, 95, -8, 1), row(1, 48, 49, 96, 0, 1), 0, 1, 0, 1, []int{2}},
		{"Inner at both abutments", sample, nil, th(100, 222, 0, 1), [][]int{{0, 1}, {233, 242}, {233, 242}, {0, 1}}, 0, 1, 0, 1, []int{0, 3}},
		{"Inner at all joints", hump(), nil, th(48, 96, 0, 1), row(0, 1, 0, 1, 0, 1), 0, 1, 0, 0, []int{0, 1, 2}},
		{"Inner at all joints that lean", sample, nil, th(333, 222, 0, 1), [][]int{{0, 1}, {0, 1}, {0, 1}, {0, 1}}, 0, 1, 0, 0, []int{0, 1, 2, 3}},
		{"Inner between", twoHaunches(), nil, th(1018, 2703, -27317, 17), [][]int{{2639, 3054}, {133, 1018}, {4493, 4588}, {0, 1}, {4493, 4588}, {133, 1018}, {2639, 3054}}, 0, 1, 0, 2, []int{3}},
		{"Outer at the first joint", flat, nil, th(200, 40, -800, 1), row(1, 1, 24, 25, 11, 25), 0, 1, 0, 0, []int{0}},
		{"Outer between", flat, nil, th(96, 96, -192, 1), row(1, 2, 1, 1, 1, 2), 0, 1, 0, 1, []int{1}},
		{"Outer between under a load", flat, right, th(414, 399, -828, 4), row(1, 2, 1, 1, 1, 2), 0, 1, 0, 1, []int{1}},
		{"Outer at the last joint", flat, nil, th(200, 152, -352, 1), row(11, 25, 24, 25, 1, 1), 0, 1, 0, 2, []int{2}},
		{"Outer at two joints", flat, nil, th(192, 48, -768, 1), row(1, 1, 1, 1, 1, 2), 0, 1, 0, 0, []int{0, 1}},
		{"Outer at two joints without H", fallingFeet(), nil, th(0, 249, -56, 1), [][]int{{14, 249}, {1, 1}, {1, 1}, {14, 249}}, 0, 1, 0, 1, []int{1, 2}},
		{"Outer at all joints", hump(), nil, th(48, 96, -192, 1), row(1, 1, 1, 1, 1, 1), 0, 1, 0, 0, []int{0, 1, 2}},
		{"both under a load", flat, right, th(207, 96, -828, 2), row(1, 1, 1, 1, 0, 1), 0, 1, 0, 0, []int{0, 1, 2}},
		{"both, but one joint between", sample, nil, th(878, 1133, 0, 4), [][]int{{0, 1}, {2133, 4093}, {1, 1}, {1, 1}}, 0, 1, 0, 2, []int{0, 2, 3}},
		{"both in turn", fiveHinges(), nil, th(12, 39, -303, 1), [][]int{{0, 1}, {1, 1}, {0, 1}, {1, 1}, {0, 1}}, 0, 1, 0, 1, []int{0, 1, 2, 3, 4}},
		{"both under two loads", twoHaunches(), two, th(61, 202, -1799, 1), [][]int{{0, 1}, {19, 61}, {1, 1}, {0, 1}, {1, 1}, {19, 61}, {0, 1}}, 0, 1, 0, 2, []int{0, 2, 3, 4, 6}},
		{"both at eight joints", archCases()[12].a, nil, th(8598, 27930, -728142, 19), [][]int{{9637, 27930}, {0, 1}, {5237, 15753}, {1, 1}, {1, 1}, {5237, 15753}, {0, 1}, {9637, 27930}}, 0, 1, 0, 3, []int{1, 3, 4, 6}},
	}
}

// insideCases are thrusts that touch no joint.
func insideCases() []lineCase {
	flat, sample := upright(3, 0, 4), archCases()[4].a
	return []lineCase{
		{"a place is the margin", flat, nil, th(192, 144, -96, 1), row(1, 8, 5, 8, 5, 8), 1, 8, 8, 1, nil},
		{"1 minus a place is the margin", flat, nil, th(192, 144, -288, 1), row(3, 8, 7, 8, 7, 8), 1, 8, 8, 1, nil},
		{"1 minus one place alone is the margin", flat, nil, th(960, 96, -1920, 1), row(1, 2, 11, 20, 1, 2), 9, 20, 3, 1, nil},
		{"both are the margin", flat, nil, th(480, 96, -864, 1), row(9, 20, 11, 20, 9, 20), 9, 20, 3, 1, nil},
		{"the same margin at all joints, the last two high", flat, nil, th(192, 144, -192, 1), row(1, 4, 3, 4, 3, 4), 1, 4, 4, 1, nil},
		{"the same margin at all joints, the first two high", flat, nil, th(192, 48, -576, 1), row(3, 4, 3, 4, 1, 4), 1, 4, 4, 0, nil},
		{"the same margin at all joints, the joint between high", flat, nil, th(96, 96, -96, 1), row(1, 4, 3, 4, 1, 4), 1, 4, 4, 1, nil},
		{"one half", raised(), nil, th(96, 96, -192, 1), row(1, 2, 1, 2, 1, 2), 1, 2, 2, 0, nil},
		{"one half of longer joints", hump(), nil, th(48, 96, -96, 1), row(1, 2, 1, 2, 1, 2), 1, 2, 2, 0, nil},
		{"just above one half", raised(), nil, th(96, 96, -193, 1), row(193, 384, 193, 384, 193, 384), 191, 384, 3, 0, nil},
		{"just below one half", raised(), nil, th(96, 96, -191, 1), row(191, 384, 191, 384, 191, 384), 191, 384, 3, 0, nil},
		{"just less than one half at the joint between", raised(), nil, th(97, 96, -192, 1), row(48, 97, 95, 194, 48, 97), 95, 194, 3, 0, nil},
		{"as little as can be", hump(), nil, th(48, 96, -1, 1), row(1, 192, 1, 192, 1, 192), 1, 192, 0, 0, nil},
		{"joints that lean", sample, nil, th(675, 444, -1470, 2), [][]int{{490, 971}, {121, 239}, {121, 239}, {490, 971}}, 118, 239, 3, 1, nil},
		{"joints that fall", fallingFeet(), nil, th(6383, 22410, -40120, 90), [][]int{{40120, 83257}, {8345, 13673}, {8345, 13673}, {40120, 83257}}, 5328, 13673, 3, 1, nil},
		{"six joints", fourHinges(), nil, th(792, 1617, -16947, 7), [][]int{{30, 209}, {413, 593}, {45, 626}, {45, 626}, {413, 593}, {30, 209}}, 45, 626, 14, 1, nil},
		{"eight joints", archCases()[12].a, nil, th(137979, 270480, -7773126, 184),
			[][]int{{9287, 11760}, {2644, 19403}, {13696, 396301}, {14099, 302454}, {14099, 302454}, {13696, 396301}, {2644, 19403}, {9287, 11760}}, 13696, 396301, 29, 0, nil},
	}
}

// closeCases have two places that are equal, or differ by less than floating
// point numbers can tell.
func closeCases() []lineCase {
	a := slanted()
	return []lineCase{
		// The higher ones are close.
		{"joint 0 is higher than 1", a, nil, th(999999999999, 43, -1166666666653, 1),
			row(1166666666653, 3999999999953, 1166666666681, 4000000000049, 233333333265, 800000000029), 233333333265, 800000000029, 4, 0, nil},
		{"joint 1 is higher than 0", a, nil, th(1000000000000, 43, -1166666666654, 1),
			row(1166666666654, 3999999999957, 388888888894, 1333333333351, 1166666666326, 4000000000149), 1166666666326, 4000000000149, 4, 1, nil},
		{"joint 1 is as high as 0", a, nil, th(1000000000000, 40, -666666666660, 1),
			row(1, 6, 1, 6, 166666666577, 1000000000038), 166666666577, 1000000000038, 7, 0, nil},
		{"joint 1 is higher than 2", a, nil, th(999999999999, 139, -1166666666241, 1),
			row(1166666666241, 3999999999857, 1166666666653, 3999999999953, 1166666666681, 4000000000049), 1166666666241, 3999999999857, 4, 1, nil},
		{"joint 2 is higher than 1", a, nil, th(1000000000000, 139, -1166666666242, 1),
			row(1166666666242, 3999999999861, 1166666666654, 3999999999957, 388888888894, 1333333333351), 1166666666242, 3999999999861, 4, 2, nil},
		{"joint 2 is as high as 1", a, nil, th(1000000000000, 136, -666666666260, 1),
			row(166666666565, 999999999966, 1, 6, 1, 6), 166666666565, 999999999966, 7, 1, nil},
		// The least distances from Outer are close.
		{"joint 0 is nearer to Outer than 1", a, nil, th(999999999999, 53, -2833333333293, 1),
			row(2833333333293, 3999999999943, 2833333333361, 4000000000039, 566666666609, 800000000027), 1166666666650, 3999999999943, 4, 0, nil},
		{"joint 1 is nearer to Outer than 0", a, nil, th(999999999998, 53, -2833333333290, 1),
			row(944444444430, 1333333333313, 2833333333358, 4000000000035, 2833333333042, 4000000000131), 1166666666677, 4000000000035, 4, 1, nil},
		{"joint 1 is nearer to Outer than 2", a, nil, th(999999999999, 149, -2833333332841, 1),
			row(2833333332841, 3999999999847, 2833333333293, 3999999999943, 2833333333361, 4000000000039), 1166666666650, 3999999999943, 4, 1, nil},
		{"joint 2 is nearer to Outer than 1", a, nil, th(999999999998, 149, -2833333332838, 1),
			row(2833333332838, 3999999999843, 944444444430, 1333333333313, 2833333333358, 4000000000035), 1166666666677, 4000000000035, 4, 2, nil},
		{"two joints are as near to Outer", a, nil, th(999999999998, 56, -3333333333280, 1),
			row(5, 6, 5, 6, 52083333329, 62500000002), 1, 6, 6, 0, nil},
		// The least distances from Inner are close.
		{"joint 0 is nearer to Inner than 2", a, nil, th(1000000000000, 91, -1166666666640, 1),
			row(388888888880, 1333333333303, 233333333372, 800000000001, 1166666666696, 4000000000101), 388888888880, 1333333333303, 4, 1, nil},
		{"joint 2 is nearer to Inner than 0", a, nil, th(999999999999, 91, -1166666666639, 1),
			row(1166666666639, 3999999999905, 1166666666859, 4000000000001, 1166666666695, 4000000000097), 1166666666695, 4000000000097, 4, 1, nil},
		{"two joints are as near to Inner", a, nil, th(1000000000000, 88, -666666666652, 1),
			row(1, 6, 166666666715, 1000000000002, 1, 6), 1, 6, 6, 1, nil},
	}
}

func lineCases() []lineCase {
	return slices.Concat(touchingCases(), insideCases(), closeCases())
}

func TestLines(t *testing.T) {
	for _, c := range lineCases() {
		t.Run(c.name, func(t *testing.T) {
			if !areLoadsByText(c.a, c.loads) || !isThrustByText(c.x) {
				t.Fatalf("the arch %v with %v, or the thrust %v, is not valid", c.a, c.loads, c.x)
			}
			checkLine(t, c.a, c.loads, c.x, c.want())
			checkLineByText(t, c.a, c.loads, c.x)
			for n := -2; n <= 102; n++ {
				want := c.fewest > 0 && c.fewest <= n && n <= 100
				if got := impl.InMiddle(c.a, c.loads, c.x, n); got != want {
					t.Errorf("InMiddle(%v, %v, %v, %d) = %v, want %v", c.a, c.loads, c.x, n, got, want)
				}
			}
		})
	}
}

// The close cases are close: no float can tell two of their places.
func TestCloseCasesAreClose(t *testing.T) {
	for _, c := range closeCases() {
		alike := 0
		for i, p := range c.places {
			for _, q := range c.places[i+1:] {
				if float64(p[0])/float64(p[1]) == float64(q[0])/float64(q[1]) {
					alike++
				}
			}
		}
		if alike == 0 {
			t.Errorf("%s: the places %v are not close", c.name, c.places)
		}
	}
}

// lineless is a thrust for which PlacesOf is nil.
type lineless struct {
	name  string
	a     impl.Arch
	loads []impl.Load
	x     impl.Thrust
	// failing are the joints without a place.
	failing []int
}

// leavingCases are thrusts that leave the arch at one joint, by the least.
func leavingCases() []lineless {
	flat := upright(3, 0, 4)
	return []lineless{
		{"beyond Inner of the first joint", flat, nil, th(96, 97, 1, 1), []int{0}},
		{"beyond Outer of the first joint", flat, nil, th(200, 40, -801, 1), []int{0}},
		{"beyond Inner between", hump(), nil, th(49, 96, -3, 1), []int{1}},
		{"beyond Outer between", flat, nil, th(96, 96, -193, 1), []int{1}},
		{"beyond Inner of the last joint", flat, nil, th(96, 95, -7, 1), []int{2}},
		{"beyond Outer of the last joint", flat, nil, th(200, 152, -353, 1), []int{2}},
		{"beyond Inner of the last joint, Den 2", archCases()[4].a, nil, th(201, 443, -7, 2), []int{3}},
		{"under a load of the least weight", flat, []impl.Load{ld(1, 1, 7)}, th(48, 96, 0, 1), []int{2}},
		{"beyond all joints", flat, nil, th(1, 0, 1000, 1), []int{0, 1, 2}},
	}
}

// alongCases are thrusts whose push is along a joint, though they pass all of
// them.
func alongCases() []lineless {
	first := archOf(jt(-6, -1, 2, -4), jt(-3, -6, 2, -5), jt(0, -11, 7, -15), jt(1, -14, 4, -20))
	between := archOf(jt(-6, 2, -9, 7), jt(-5, 6, -4, 12), jt(-4, 1, -1, 5))
	last := archOf(jt(-6, 2, -11, 1), jt(-3, 8, -12, 11), jt(-1, 12, -8, 12), jt(1, 18, -2, 17))
	loaded := archOf(jt(-6, 3, -9, 9), jt(-4, 0, -5, 6), jt(0, -5, 4, -1))
	return []lineless{
		{"along the first joint", first, nil, th(4904, -1839, 15938, 61), []int{0}},
		{"along the joint between", between, nil, th(308, 4998, -30838, 25), []int{1}},
		{"along the last joint", last, nil, th(3024, 9354, -105918, 13), []int{3}},
		{"along the joint between, under a load", loaded, []impl.Load{ld(1, 280, 5)}, th(71, 78, -1341, 7), []int{1}},
		{"upwards along the joint between", archOf(jt(-6, 3, -7, 8), jt(-4, 7, -4, 9), jt(-2, -2, 2, 4)), []impl.Load{ld(1, 181, 0)}, th(0, 44, -264, 1), []int{1}},
		{"no push at the first joint", first, nil, th(0, 0, 0, 1), []int{0}},
		{"no push at the joint between", between, nil, th(0, 126, -790, 1), []int{1}},
		{"no push at the last joint", last, nil, th(0, 642, -4038, 1), []int{3}},
		{"along all joints", gable(), []impl.Load{ld(1, 48, 6)}, th(0, 30, -90, 1), []int{0, 1, 2}},
	}
}

func TestNoLine(t *testing.T) {
	for _, c := range slices.Concat(leavingCases(), alongCases()) {
		t.Run(c.name, func(t *testing.T) {
			if !areLoadsByText(c.a, c.loads) || !isThrustByText(c.x) {
				t.Fatalf("the arch %v with %v, or the thrust %v, is not valid", c.a, c.loads, c.x)
			}
			checkLine(t, c.a, c.loads, c.x, noLine())
			checkLineByText(t, c.a, c.loads, c.x)
			var failing []int
			for k := range c.a.Joints {
				if passingByText(c.a, c.loads, c.x, k).whole == 0 {
					failing = append(failing, k)
				}
			}
			if !slices.Equal(failing, c.failing) {
				t.Errorf("there is no place at the joints %v, want %v", failing, c.failing)
			}
		})
	}
	for _, c := range alongCases() {
		if !impl.StandsWith(c.a, c.loads, c.x) {
			t.Errorf("%s: %v does not stand with %v", c.name, c.a, c.x)
		}
	}
}

// Each n, with a margin of exactly 1 / n, and of the next quotients: at the
// first joint of two square stones, and at the one between.
func TestInMiddleExactly(t *testing.T) {
	a := upright(3, 0, 4)
	for n := 3; n <= 100; n++ {
		for _, part := range []int{1000, 1000000007, topForce / n} {
			h := n * part
			for by := -1; by <= 1; by++ {
				checkParts(t, a, th(h, 96, -(4*part+by), 1), n, quotient(4*part+by, 4*h))
				checkParts(t, a, th(h, 96, -(4*h-4*part-192-by), 1), n, quotient(4*part+by, 4*h))
			}
		}
	}
	for by := -1; by <= 1; by++ {
		checkParts(t, raised(), th(96, 96, -192+by, 1), 2, quotient(192-max(by, -by), 384))
	}
}

// checkParts tests InMiddle of a thrust whose margin is 1 / n, or the quotient
// next to it.
func checkParts(t *testing.T, a impl.Arch, x impl.Thrust, n int, margin *big.Rat) {
	t.Helper()
	l := lineByText(a, nil, x)
	if l.margin == nil || l.margin.Cmp(margin) != 0 {
		t.Fatalf("the margin of %v in %v is %v, want %v", x, a, l.margin, margin)
	}
	for parts := n - 1; parts <= n+1; parts++ {
		want := 2 <= parts && parts <= 100 && margin.Cmp(quotient(1, parts)) >= 0
		if got := impl.InMiddle(a, nil, x, parts); got != want {
			t.Errorf("InMiddle(%v, nil, %v, %d) = %v, and the margin is %v", a, x, parts, got, margin)
		}
	}
}

// wrappedHighest is HighestJoint with products that wrap around, which may be
// wrong.
func wrappedHighest(places [][]int) int {
	highest := 0
	for k, p := range places {
		if p[0]*places[highest][1] > places[highest][0]*p[1] {
			highest = k
		}
	}
	return highest
}

// wrappedMargin is MarginOf likewise.
func wrappedMargin(places [][]int) *big.Rat {
	num, den := places[0][0], places[0][1]
	for _, p := range places {
		for _, part := range []int{p[0], p[1] - p[0]} {
			if part*den < num*p[1] {
				num, den = part, p[1]
			}
		}
	}
	return quotient(num, den)
}

// The greatest numerators and denominators that there can be.
func TestLinesOfTheGreatestNumbers(t *testing.T) {
	a, heavy := diagonal(), []impl.Load{ld(0, 10000, 60), ld(1, 10000, -60), ld(0, 10000, 60), ld(1, 10000, 60), ld(0, 10000, -60), ld(1, 10000, 60)}
	r := rand.New(rand.NewSource(14))
	highest, margin, greatest := 0, 0, 0
	for i := range 4000 {
		x := th(topForce-r.Intn(1000), -topTurn+r.Intn(1000), r.Intn(2*topTurn)-topTurn, 1+i%2*(topDen-1))
		if i < 8 {
			x = th(topForce, -topTurn, -topTurn*(1-i%4%3), 1+i/4*(topDen-1))
		}
		loads := heavy[:i%7]
		if !isThrustByText(x) {
			continue
		}
		l := checkLineByText(t, a, loads, x)
		if l.margin == nil {
			t.Fatalf("%v leaves %v with %v", x, a, loads)
		}
		if wrappedHighest(l.places) != l.highest {
			highest++
		}
		if wrappedMargin(l.places).Cmp(l.margin) != 0 {
			margin++
		}
		greatest = max(greatest, l.places[0][1], l.places[1][1], l.places[2][1])
	}
	if highest < 100 || margin < 100 || greatest < 1300*topForce {
		t.Errorf("products that wrap around are wrong %d times for the highest joint and %d times for the margin, up to %d", highest, margin, greatest)
	}
}

// checkMirrored tests that the mirror image of a line has the same places from
// right to left.
func checkMirrored(t *testing.T, a impl.Arch, loads []impl.Load, x impl.Thrust, l thrustLine) {
	t.Helper()
	image, ok := impl.MirrorArch(a, 0)
	if !ok {
		t.Fatalf("%v has no mirror image", a)
	}
	var moved []impl.Load
	for _, load := range loads {
		moved = append(moved, ld(len(a.Joints)-2-load.Stone, load.Weight, -load.X))
	}
	last := len(a.Joints) - 1
	y := th(x.H, x.Den*impl.TotalOf(a, loads)-x.V, x.M-x.Den*impl.MomentLeft(a, loads, last), x.Den)
	if !isThrustByText(y) {
		return
	}
	want := l
	want.places = slices.Clone(l.places)
	slices.Reverse(want.places)
	want.touched = nil
	for _, k := range l.touched {
		want.touched = append([]int{last - k}, want.touched...)
	}
	// Of several highest ones, the last one would become the first one.
	want.highest = lineByText(image, moved, y).highest
	checkLine(t, image, moved, y, want)
}

// kindsOfLine names what is true of a line of thrust.
func kindsOfLine(a impl.Arch, loads []impl.Load, x impl.Thrust, l thrustLine) []string {
	var kinds []string
	add := func(is bool, kind string) {
		if is {
			kinds = append(kinds, kind)
		}
	}
	if l.margin == nil {
		return []string{"nil: " + kindOfFailing(a, loads, x)}
	}
	isAt := func(place *big.Rat) bool {
		return slices.ContainsFunc(l.places, func(p []int) bool { return quotient(p[0], p[1]).Cmp(place) == 0 })
	}
	low, high := isAt(quotient(0, 1)), isAt(quotient(1, 1))
	add(low && !high, "touches Inner alone")
	add(high && !low, "touches Outer alone")
	add(low && high, "touches both")
	add(len(l.touched) == len(a.Joints), "touches all joints")
	add(!low && !high, "touches none")
	add(!low && !high && isAt(l.margin), "a place is the margin")
	add(!low && !high && !isAt(l.margin), "1 minus a place is the margin")
	add(l.margin.Cmp(quotient(1, 2)) == 0, "one half")
	top := l.places[l.highest]
	last := slices.IndexFunc(l.places[l.highest+1:], func(p []int) bool { return slices.Equal(p, top) })
	add(last >= 0, "several are highest")
	add(last < 0 && l.highest == 0, "the first is highest")
	add(last < 0 && l.highest == len(a.Joints)-1, "the last is highest")
	add(last < 0 && 0 < l.highest && l.highest < len(a.Joints)-1, "one between is highest")
	return kinds
}

// kindOfFailing names the joints at which there is no place.
func kindOfFailing(a impl.Arch, loads []impl.Load, x impl.Thrust) string {
	var failing []int
	along := false
	for k := range a.Joints {
		if p := passingByText(a, loads, x, k); p.whole == 0 {
			failing = append(failing, k)
			along = p.inside
		}
	}
	switch {
	case !isThrustByText(x):
		return "no thrust"
	case len(failing) > 1:
		return "several joints"
	case along:
		return "along one joint"
	case failing[0] == 0:
		return "the first joint"
	case failing[0] == len(a.Joints)-1:
		return "the last joint"
	}
	return "a joint between"
}

// visitLines calls visit for arches under loads, with thrusts that pass them and
// others.
func visitLines(visit func(a impl.Arch, loads []impl.Load, x impl.Thrust)) {
	for _, c := range lineCases() {
		for _, x := range append(besideThrust(c.x, 1), besideThrust(c.x, topDen/c.x.Den)...) {
			visit(c.a, c.loads, x)
		}
	}
	for _, c := range slices.Concat(leavingCases(), alongCases()) {
		for _, x := range besideThrust(c.x, 1) {
			visit(c.a, c.loads, x)
		}
	}
	visitRanges(func(a impl.Arch, loads []impl.Load) {
		for _, x := range thrustsToTry(a, loads) {
			visit(a, loads, x)
		}
	})
}

// Promise 14.
func TestTouchesAJointJustIfTheMarginIsZero(t *testing.T) {
	with, without := map[string]int{}, map[string]int{}
	visitLines(func(a impl.Arch, loads []impl.Load, x impl.Thrust) {
		l := lineByText(a, loads, x)
		checkMargin(t, a, loads, x, l)
		for _, kind := range kindsOfLine(a, loads, x, l) {
			if len(loads) > 0 {
				with[kind]++
			} else {
				without[kind]++
			}
		}
	})
	for _, kind := range []string{
		"touches Inner alone", "touches Outer alone", "touches both", "touches all joints", "touches none", "a place is the margin", "1 minus a place is the margin",
		"several are highest", "the first is highest", "the last is highest", "one between is highest",
		"nil: no thrust", "nil: several joints", "nil: along one joint", "nil: the first joint", "nil: a joint between", "nil: the last joint",
	} {
		if with[kind] < 3 || without[kind] < 3 {
			t.Errorf("only %d lines under loads and %d without loads of which it is true that %s were tried", with[kind], without[kind], kind)
		}
	}
	if without["one half"] == 0 {
		t.Error("no line with the margin one half was tried")
	}
}

func TestLinesByText(t *testing.T) {
	mirrored := 0
	visitLines(func(a impl.Arch, loads []impl.Load, x impl.Thrust) {
		l := checkLineByText(t, a, loads, x)
		if l.margin != nil {
			checkMirrored(t, a, loads, x, l)
			mirrored++
		}
	})
	if mirrored < 500 {
		t.Errorf("only %d lines and their mirror images were tried", mirrored)
	}
}

// The places of a mixture are between those of its parts, and so it comes no
// nearer to an end than one of them.
func TestLinesOfMixtures(t *testing.T) {
	mixed := 0
	visitStanding(func(a impl.Arch, loads []impl.Load) {
		thrusts := impl.ThrustsOf(a, loads)
		for i := 1; i < len(thrusts); i++ {
			x, ok := mixedByText(thrusts[i-1], thrusts[i])
			first, second := lineByText(a, loads, thrusts[i-1]), lineByText(a, loads, thrusts[i])
			if !ok || first.margin == nil || second.margin == nil {
				continue
			}
			l := checkLineByText(t, a, loads, x)
			if l.margin == nil || l.margin.Cmp(first.margin) < 0 && l.margin.Cmp(second.margin) < 0 {
				t.Fatalf("the margins of %v and of %v in %v are %v and %v, and that of the mixture %v", thrusts[i-1], thrusts[i], a, first.margin, second.margin, l.margin)
			}
			for k, p := range l.places {
				low, high := quotient(first.places[k][0], first.places[k][1]), quotient(second.places[k][0], second.places[k][1])
				place := quotient(p[0], p[1])
				if place.Cmp(low)*place.Cmp(high) > 0 {
					t.Fatalf("the place of the mixture of %v and %v at joint %d of %v is %v, not between %v and %v", thrusts[i-1], thrusts[i], k, a, place, low, high)
				}
			}
			mixed++
		}
	})
	if mixed < 200 {
		t.Errorf("only %d mixtures were tried", mixed)
	}
}

// randomMixture is some thrust between those of thrusts, with great numbers.
func randomMixture(r *rand.Rand, thrusts []impl.Thrust) (impl.Thrust, bool) {
	var sums [3]big.Rat
	total := 0
	for _, x := range thrusts {
		parts := r.Intn(9)
		total += parts
		for i, n := range []int{x.H, x.V, x.M} {
			sums[i].Add(&sums[i], quotient(n*parts, x.Den))
		}
	}
	if total == 0 {
		return impl.Thrust{}, false
	}
	for i := range sums {
		sums[i].Quo(&sums[i], quotient(total, 1))
	}
	return thrustOf(&sums[0], &sums[1], &sums[2])
}

func TestLinesOfRandomArches(t *testing.T) {
	r := rand.New(rand.NewSource(1414))
	tried := map[string]int{}
	for i := range 3000 {
		breadth, height := 10, 12
		if i%2 == 0 {
			breadth, height = 56, 40
		}
		a, loads := randomArch(r, breadth, height)
		if i%5 == 0 {
			a = leaning(r)
		}
		thrusts := impl.ThrustsOf(a, loads)
		for range 4 {
			x, ok := randomMixture(r, thrusts)
			if !ok {
				continue
			}
			l := checkLineByText(t, a, loads, x)
			if l.margin != nil {
				checkMirrored(t, a, loads, x, l)
			}
			for _, kind := range kindsOfLine(a, loads, x, l) {
				tried[kind]++
			}
		}
	}
	for _, kind := range []string{"touches Inner alone", "touches Outer alone", "touches both", "touches none", "a place is the margin", "1 minus a place is the margin", "the first is highest", "the last is highest", "one between is highest"} {
		if tried[kind] < 10 {
			t.Errorf("only %d lines of which it is true that %s were tried", tried[kind], kind)
		}
	}
}

func TestLinesOfInvalidArches(t *testing.T) {
	for _, c := range invalidArches() {
		for _, loads := range [][]impl.Load{nil, {}, {ld(0, 10, 1)}} {
			for _, x := range []impl.Thrust{th(48, 96, 0, 1), th(96, 96, -96, 1), th(3, -5, -7, 2)} {
				checkLine(t, c.a, loads, x, noLine())
			}
		}
	}
	// The same thrust would pass all joints of these.
	for _, a := range []impl.Arch{upright(1, 0, 4), upright(2, 0, 4), upright(9, -20, 5)} {
		checkLine(t, a, nil, th(9600, 96, -9600, 1), noLine())
	}
}

func TestLinesWithInvalidLoads(t *testing.T) {
	for _, c := range slices.Concat(touchingCases(), insideCases()) {
		for _, l := range invalidLoads(len(c.a.Joints) - 1) {
			checkLine(t, c.a, l.loads, c.x, noLine())
		}
		// More loads than there may be, though they have no weight.
		checkLine(t, c.a, append(make([]impl.Load, 7-len(c.loads)), c.loads...), c.x, noLine())
		checkLine(t, c.a, append(make([]impl.Load, 6-len(c.loads)), c.loads...), c.x, c.want())
	}
}

func TestLinesOfInvalidThrusts(t *testing.T) {
	for _, c := range lineCases() {
		list := invalidThrusts()
		// The same push in another form is no valid thrust.
		for _, n := range []int{2, 3, 10} {
			list = append(list, th(n*c.x.H, n*c.x.V, n*c.x.M, n*c.x.Den))
		}
		list = append(list, th(-c.x.H, -c.x.V, -c.x.M, -c.x.Den), th(c.x.H, c.x.V, c.x.M, 0))
		for _, x := range list {
			checkLine(t, c.a, c.loads, x, noLine())
		}
	}
}

func TestSameLineAtEveryCall(t *testing.T) {
	for range 20 {
		for _, c := range lineCases() {
			checkLine(t, c.a, c.loads, c.x, c.want())
		}
		for _, c := range alongCases() {
			checkLine(t, c.a, c.loads, c.x, noLine())
		}
	}
}

func TestSameLineFromManyGoroutines(t *testing.T) {
	cases := lineCases()
	var joined sync.WaitGroup
	for i := range 16 {
		joined.Add(1)
		go func() {
			defer joined.Done()
			for n := range 3 * len(cases) {
				c := cases[(i+n)%len(cases)]
				num, den, ok := impl.MarginOf(c.a, c.loads, c.x)
				if !ok || num != c.num || den != c.den || impl.HighestJoint(c.a, c.loads, c.x) != c.highest {
					t.Errorf("%s: the margin %d, %d, %v, want %d, %d", c.name, num, den, ok, c.num, c.den)
				}
				if !sameLists(impl.PlacesOf(c.a, c.loads, c.x), c.places) || !slices.Equal(impl.TouchedJoints(c.a, c.loads, c.x), c.touched) {
					t.Errorf("%s: other places or touched joints", c.name)
				}
			}
		}()
	}
	joined.Wait()
}

// spoilLists writes over all lists and what is behind them.
func spoilLists(lists [][]int) {
	for i, list := range lists {
		for k := range list[:cap(list)] {
			list[:cap(list)][k] = -9
		}
		lists[i] = append(list, 9, 9)
	}
	for i := range lists[:cap(lists)] {
		lists[:cap(lists)][i] = []int{8}
	}
}

func TestLinesShareNoMemory(t *testing.T) {
	for _, c := range lineCases() {
		a, loads := copyOfArch(c.a), slices.Clone(c.loads)
		first, second := impl.PlacesOf(a, loads, c.x), impl.PlacesOf(a, loads, c.x)
		touched, others := impl.TouchedJoints(a, loads, c.x), impl.TouchedJoints(a, loads, c.x)
		spoilLists(first)
		spoilLists([][]int{touched})
		checkLine(t, a, loads, c.x, c.want())
		spoilArch(a)
		spoilLoads(loads)
		if !sameLists(second, c.places) || !slices.Equal(others, c.touched) {
			t.Errorf("%s: a change of another result or of the arguments changed %v and %v to %v and %v", c.name, c.places, c.touched, second, others)
		}
	}
}

// No list of places shares memory with the one beside it.
func TestPlacesShareNoMemory(t *testing.T) {
	for _, c := range lineCases() {
		for k := range c.places {
			places := impl.PlacesOf(c.a, c.loads, c.x)
			spoilLists(places[k : k+1 : k+1])
			for i, list := range places {
				if len(c.places[i]) != 2 || i != k && !slices.Equal(list, c.places[i]) {
					t.Errorf("%s: a change of the list of joint %d changed that of joint %d to %v", c.name, k, i, list)
				}
			}
		}
	}
}

func TestLineArgumentsUnchanged(t *testing.T) {
	checkKeepsArguments(t, func(a impl.Arch, loads []impl.Load) {
		for _, x := range []impl.Thrust{th(100, 222, 0, 1), th(675, 444, -1470, 2), th(0, 308, 1613, 1), {}} {
			impl.PlacesOf(a, loads, x)
			impl.MarginOf(a, loads, x)
			impl.InMiddle(a, loads, x, 3)
			impl.HighestJoint(a, loads, x)
			impl.TouchedJoints(a, loads, x)
		}
	})
}
