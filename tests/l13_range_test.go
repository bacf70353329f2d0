package tests

import (
	"math/big"
	"math/rand"
	"runtime"
	"slices"
	"sync"
	"testing"

	"loop.example/g03301/impl"
)

// hump is an arch that is passed by just one straight line: it touches Outer of
// both abutments and Inner between them.
func hump() impl.Arch {
	return archOf(jt(0, 0, 0, 4), jt(4, 4, 4, 8), jt(8, 0, 8, 4))
}

// sag is passed by just one straight line as well, but no thrust passes it: a
// line of thrust is never lower in the middle.
func sag() impl.Arch {
	return archOf(jt(0, 4, 0, 8), jt(4, 0, 4, 4), jt(8, 4, 8, 8))
}

// sagging stands only without loads: the line that passes it touches all of its
// joints but the last one.
func sagging() (impl.Arch, []impl.Load) {
	return archOf(jt(-47, 3, -49, 4), jt(-41, 2, -42, 4), jt(-33, -1, -33, 0)), []impl.Load{ld(1, 214, 20), ld(0, 66, 17)}
}

// wide is an arch of two stones whose corners are far apart; crown is the X of
// its joint in the middle.
func wide(crown int) impl.Arch {
	return archOf(jt(-53, -50, -56, -48), jt(crown, 38, crown, 43), jt(54, -51, 57, -48))
}

// wideOutside is a wider one, whose outer corners are as far apart.
func wideOutside(crown int) impl.Arch {
	return archOf(jt(-50, -52, -53, -50), jt(crown, 43, crown, 47), jt(52, -53, 54, -51))
}

// zigzag is an arch of n joints on a line that rises by rise for each 3 to the
// right: the line touches Outer and Inner of them in turn.
func zigzag(n int, rise int) impl.Arch {
	var a impl.Arch
	for k := range n {
		x, y := 3*k-12, rise*(k-4)
		if k%2 == 0 {
			a.Joints = append(a.Joints, jt(x, y-5, x, y))
		} else {
			a.Joints = append(a.Joints, jt(x, y, x, y+5))
		}
	}
	return a
}

// pushRange is all that Chapter 13 returns for an arch under loads.
type pushRange struct {
	least    impl.Thrust
	stands   bool
	straight bool
	greatest impl.Thrust
	limited  bool
	unique   bool
	num, den int
	differs  bool
}

func pushRangeOf(a impl.Arch, loads []impl.Load) pushRange {
	var p pushRange
	p.least, p.stands = impl.LeastThrust(a, loads)
	p.straight = impl.IsStraight(a)
	p.greatest, p.limited = impl.GreatestThrust(a, loads)
	p.unique = impl.IsUniqueThrust(a, loads)
	p.num, p.den, p.differs = impl.ThrustSpread(a, loads)
	return p
}

// farthestByText is the first one of thrusts for which no other one compares
// with it in this order.
func farthestByText(thrusts []impl.Thrust, order int) (impl.Thrust, bool) {
	for _, x := range thrusts {
		if !slices.ContainsFunc(thrusts, func(y impl.Thrust) bool { return comparedByText(y, x) == order }) {
			return x, true
		}
	}
	return impl.Thrust{}, false
}

// sightLine is the points with p*Y - q*X + r = 0, where p is positive.
type sightLine struct{ p, q, r int }

// sightLines are the lines through two ends of joints that are not upright.
func sightLines(a impl.Arch) []sightLine {
	var ends []impl.Point
	for _, j := range a.Joints {
		ends = append(ends, j.Inner, j.Outer)
	}
	var lines []sightLine
	for i, s := range ends {
		for _, e := range ends[i+1:] {
			p, q := e.X-s.X, e.Y-s.Y
			if p < 0 {
				p, q = -p, -q
			}
			if p > 0 {
				lines = append(lines, sightLine{p, q, q*s.X - p*s.Y})
			}
		}
	}
	return lines
}

// missesBy is not positive if l passes all joints of a. Otherwise it is by how
// much l misses the one that it misses most.
func (l sightLine) missesBy(a impl.Arch) int {
	at := func(p impl.Point) int { return l.p*p.Y - l.q*p.X + l.r }
	most := at(a.Joints[0].Inner)
	for _, j := range a.Joints {
		most = max(most, at(j.Inner), -at(j.Outer))
	}
	return most
}

// passingLines are those of sightLines that pass all joints of a valid arch.
func passingLines(a impl.Arch) []sightLine {
	if !isArchByText(a.Joints) {
		return nil
	}
	return slices.DeleteFunc(sightLines(a), func(l sightLine) bool { return l.missesBy(a) > 0 })
}

func isStraightByText(a impl.Arch) bool {
	return len(passingLines(a)) > 0
}

// isEndlessByText reports whether forces without weight can push through all
// joints of a valid arch as much as one likes. It needs no line.
func isEndlessByText(a impl.Arch) bool {
	rows := rowsByText(a, nil)
	for i := range rows {
		rows[i].D = 0
	}
	_, high, ok := rangeByText(rows, 0)
	return ok && high == nil
}

// differenceByText is how much more greatest pushes than least.
func differenceByText(greatest impl.Thrust, least impl.Thrust) *big.Rat {
	return new(big.Rat).Sub(quotient(greatest.H, greatest.Den), quotient(least.H, least.Den))
}

// pushRangeByText follows the sentences of the document.
func pushRangeByText(a impl.Arch, loads []impl.Load) pushRange {
	thrusts := cornersByText(givenRowsByText(a, loads))
	var p pushRange
	p.straight = isStraightByText(a)
	p.least, p.stands = farthestByText(thrusts, -1)
	if !p.straight {
		p.greatest, p.limited = farthestByText(thrusts, 1)
		p.unique = len(thrusts) == 1
	}
	if p.limited && p.least.Den <= 10000 && p.greatest.Den <= 10000 {
		by := differenceByText(p.greatest, p.least)
		p.num, p.den, p.differs = int(by.Num().Int64()), int(by.Denom().Int64()), true
	}
	return p
}

func checkRange(t *testing.T, a impl.Arch, loads []impl.Load, want pushRange) {
	t.Helper()
	if got := pushRangeOf(a, loads); got != want {
		t.Errorf("%v with %v has %+v, want %+v", a, loads, got, want)
	}
}

// checkRangeByText tests an arch against the sentences of the document, and
// against the bounds of H / Den that the rows have without any corner.
func checkRangeByText(t *testing.T, a impl.Arch, loads []impl.Load) pushRange {
	t.Helper()
	want := pushRangeByText(a, loads)
	checkRange(t, a, loads, want)
	rows := givenRowsByText(a, loads)
	if len(rows) == 0 {
		return want
	}
	low, high, stands := rangeByText(rows, 0)
	if stands != want.stands {
		t.Fatalf("%v with %v stands: %v by the rows, %v by the corners", a, loads, stands, want.stands)
	}
	if stands && low.Cmp(quotient(want.least.H, want.least.Den)) != 0 {
		t.Errorf("the least H of %v with %v is %v, want %v", a, loads, want.least, low)
	}
	if stands && (high != nil) != want.limited {
		t.Errorf("the greatest H of %v with %v is limited: %v", a, loads, want.limited)
	}
	if want.limited && high.Cmp(quotient(want.greatest.H, want.greatest.Den)) != 0 {
		t.Errorf("the greatest H of %v with %v is %v, want %v", a, loads, want.greatest, high)
	}
	if want.unique != (stands && isOnlyByText(rows, want.least)) {
		t.Errorf("%v with %v has one thrust alone: %v", a, loads, want.unique)
	}
	return want
}

// rangeCase is an arch that stands, with all of its thrusts. If it is straight,
// greatest is zero; if it has no spread, den is 0.
type rangeCase struct {
	name            string
	a               impl.Arch
	loads           []impl.Load
	thrusts         []impl.Thrust
	least, greatest impl.Thrust
	num, den        int
}

func (c rangeCase) want() pushRange {
	straight := c.greatest == impl.Thrust{}
	return pushRange{c.least, true, straight, c.greatest, !straight, !straight && len(c.thrusts) == 1, c.num, c.den, c.den > 0}
}

// uniqueRanges are arches with one thrust alone.
func uniqueRanges() []rangeCase {
	list := []rangeCase{
		{"one thrust of two stones", archOf(jt(-40, -4, -38, -1), jt(-30, 1, -30, 2), jt(-16, -3, -20, -1)), nil, []impl.Thrust{th(388, 256, -9340, 3)}, th(388, 256, -9340, 3), th(388, 256, -9340, 3), 0, 1},
	}
	for _, c := range pointCases() {
		list = append(list, rangeCase{c.name, c.a, c.loads, c.thrusts, c.thrusts[0], c.thrusts[0], 0, 1})
	}
	return list
}

// limitedRanges are arches with two thrusts or more that are not straight.
func limitedRanges() []rangeCase {
	return []rangeCase{
		{"two thrusts, the greatest first", archOf(jt(-7, -1, -8, -1), jt(-6, 0, -6, 1), jt(-4, -1, -2, -1)), []impl.Load{ld(0, 29, 1)},
			[]impl.Thrust{th(196, 0, 196, 1), th(98, 0, 98, 1)}, th(98, 0, 98, 1), th(196, 0, 196, 1), 98, 1},
		{"two thrusts, the least first", archOf(jt(-3, 2, -5, 2), jt(-2, 3, -2, 4), jt(-1, 6, 0, 11), jt(1, -6, 4, -7)), nil,
			[]impl.Thrust{th(0, 17, -51, 1), th(664, 1719, -6485, 23)}, th(0, 17, -51, 1), th(664, 1719, -6485, 23), 664, 23},
		// The least one has the greater H.
		{"two thrusts of other Dens", archOf(jt(-7, -2, -10, 1), jt(-5, -2, -5, -1), jt(-3, 0, 0, 5), jt(-2, -4, -1, -2)), []impl.Load{ld(1, 42, -3)},
			[]impl.Thrust{th(73, 338, -2220, 9), th(57, 62, -320, 1)}, th(73, 338, -2220, 9), th(57, 62, -320, 1), 440, 9},
		{"several thrusts", archOf(jt(0, 0, 0, 4), jt(4, 5, 4, 8), jt(8, 0, 8, 4)), nil,
			[]impl.Thrust{th(32, 84, 0, 1), th(160, 332, 0, 3), th(20, 84, 0, 1), th(80, 292, 0, 3), th(160, 172, -640, 3), th(160, 84, -640, 1), th(80, 212, -320, 3), th(40, 84, -160, 1)},
			th(20, 84, 0, 1), th(160, 84, -640, 1), 140, 1},
		{"several thrusts under a load", fourHinges(), []impl.Load{ld(2, 134, -7)},
			[]impl.Thrust{th(307, 752, -7382, 2), th(1843, 4514, -44312, 12), th(462, 1129, -11085, 3), th(1851, 4514, -44376, 12)},
			th(307, 752, -7382, 2), th(1851, 4514, -44376, 12), 3, 4},
	}
}

// tiedRanges are arches of which two thrusts or more have the least or the
// greatest H / Den.
func tiedRanges() []rangeCase {
	return []rangeCase{
		{"two least ones", archOf(jt(-3, 1, -3, 3), jt(-2, 3, -1, 9), jt(-1, -1, 0, 0)), []impl.Load{ld(1, 27, -3)},
			[]impl.Thrust{th(37, 86, -295, 3), th(181, 390, -1351, 7), th(27, 178, -561, 5), th(151, 786, -2509, 13), th(37, 8, -135, 2), th(181, 12, -579, 3), th(27, 151, -534, 5), th(151, 621, -2316, 12)},
			th(27, 178, -561, 5), th(181, 12, -579, 3), 824, 15},
		{"two least ones of other Dens", archOf(jt(-4, 0, -6, 5), jt(-2, 4, 0, 10), jt(0, -7, 1, -8)), nil,
			[]impl.Thrust{th(31, 302, -1208, 3), th(20, 120, -480, 1), th(6, 227, -908, 2), th(460, 5496, -21984, 41), th(940, 1445, -13370, 42), th(128, 88, -1168, 3), th(18, 439, -2724, 6), th(1592, 9312, -63832, 113)},
			th(6, 227, -908, 2), th(128, 88, -1168, 3), 119, 3},
		{"several without any push", archOf(jt(-6, 2, -8, 4), jt(-5, 5, -6, 12), jt(-4, -1, -2, -1)), []impl.Load{ld(0, 53, -6)},
			[]impl.Thrust{
				th(5, 188, -1138, 1), th(0, 173, -1038, 1), th(0, 767, -4602, 4), th(265, 1184, -10532, 19), th(421, 544, -6036, 7),
				th(37, 193, -1692, 3), th(677, 3143, -27852, 29), th(0, 146, -903, 1), th(0, 289, -1794, 2), th(0, 737, -4542, 4),
			}, th(0, 173, -1038, 1), th(421, 544, -6036, 7), 421, 7},
		{"two greatest ones", archOf(jt(-9, -12, 4, 10), jt(-2, -4, 0, 0), jt(3, -12, 2, -4), jt(4, 12, 2, 17)), []impl.Load{ld(0, 3039, -36), ld(1, 53, 10), ld(2, 2448, 59)},
			[]impl.Thrust{th(306270, -301586, -4269044, 59), th(5832, -3616, -72784, 1), th(87476, -103866, -1290224, 17), th(5832, -8512, -92368, 1), th(167715, -166136, -2303876, 32), th(274092, -363626, -4125416, 53)},
			th(87476, -103866, -1290224, 17), th(5832, -3616, -72784, 1), 11668, 17},
		{"two greatest ones of other Dens", archOf(jt(-6, 10, -5, 14), jt(-2, -8, -3, 2), jt(4, -9, -1, -1), jt(6, -8, -6, 9)), []impl.Load{ld(0, 87, -46), ld(1, 62, -41), ld(2, 52, 47)},
			[]impl.Thrust{
				th(777, 3108, -26418, 4), th(8945, 35780, -304130, 59), th(477, 23, -4908, 1), th(7190, 651, -75806, 16),
				th(1908, -3, -19062, 4), th(4839, 13701, -136251, 22), th(6619, 16877, -177051, 34), th(10308, 922, -109275, 23),
			}, th(8945, 35780, -304130, 59), th(477, 23, -4908, 1), 19198, 59},
		// The greatest one that is not the first has the lesser Den.
		{"several least and greatest ones", archOf(jt(1, -5, -7, 12), jt(6, -13, 5, -11), jt(11, -10, 5, -10), jt(14, -9, 1, -6)), []impl.Load{ld(0, 8645, -18), ld(1, 26, -17), ld(2, 8355, 18)},
			[]impl.Thrust{
				th(163374, 195920, 1012790, 11), th(0, 207872, 207872, 5), th(86212, 69843, 500903, 4), th(0, 199161, 199161, 4),
				th(43106, 28921, 244451, 2), th(709105, 870443, 4047423, 50), th(0, 186319, 78554, 5), th(0, 44402, 22849, 1),
			}, th(0, 207872, 207872, 5), th(86212, 69843, 500903, 4), 21553, 1},
		{"the least one is the greatest one", archOf(jt(-6, 10, 7, 4), jt(-5, 9, -2, 7), jt(-2, 2, 0, 4), jt(7, 7, 13, 13)), []impl.Load{ld(0, 23, -30), ld(1, 33, 11), ld(2, 43, 52)},
			[]impl.Thrust{th(0, -121, -847, 4), th(0, -64, -448, 1)}, th(0, -121, -847, 4), th(0, -121, -847, 4), 0, 1},
	}
}

// straightRanges are straight arches that stand.
func straightRanges() []rangeCase {
	a, _ := sagging()
	return []rangeCase{
		{"straight, two square stones", upright(3, 0, 4), nil, []impl.Thrust{th(48, 96, 0, 1), th(96, 144, 0, 1), th(96, 48, -384, 1)}, th(48, 96, 0, 1), impl.Thrust{}, 0, 0},
		{"straight, one thrust", archOf(jt(-24, 1, -20, 6), jt(-20, -1, -19, 2), jt(-15, 1, -13, 5)), nil, []impl.Thrust{th(225, 87, -2313, 1)}, th(225, 87, -2313, 1), impl.Thrust{}, 0, 0},
		{"straight, one integer thrust", archOf(jt(-16, 2, -18, 12), jt(-10, 3, -8, 10), jt(-7, 10, -6, 16)), nil, []impl.Thrust{th(170, 436, -7316, 1)}, th(170, 436, -7316, 1), impl.Thrust{}, 0, 0},
		{"straight, two thrusts", archOf(jt(-6, -6, -4, 10), jt(-2, -17, 2, 5), jt(0, -17, 1, -12)), nil, []impl.Thrust{th(1604, 12832, -67368, 59), th(1243, 9944, -52206, 31)}, th(1604, 12832, -67368, 59), impl.Thrust{}, 0, 0},
		{"straight, just one line", hump(), nil,
			[]impl.Thrust{th(48, 96, 0, 1), th(96, 144, 0, 1), th(24, 96, 0, 1), th(32, 112, 0, 1), th(96, 48, -384, 1), th(32, 80, -128, 1), th(48, 96, -192, 1)},
			th(24, 96, 0, 1), impl.Thrust{}, 0, 0},
		{"straight, one line that falls", a, nil,
			[]impl.Thrust{th(1474, -94, -4, 5), th(1474, -185, 4273, 2), th(82, 42, -2220, 1), th(2788, 1300, -69464, 29), th(2208, -461, 13757, 4), th(4364, 640, -48816, 35), th(1091, 128, -10636, 7)},
			th(82, 42, -2220, 1), impl.Thrust{}, 0, 0},
		{"straight, lines that are nearly upright", stack(), nil,
			[]impl.Thrust{th(0, 1620, 0, 1), th(396, 900, -8100, 1), th(330, 840, -7290, 1), th(270, 810, -6480, 1), th(0, 810, -2430, 1)},
			th(0, 1620, 0, 1), impl.Thrust{}, 0, 0},
	}
}

// wideRanges are arches with thrusts of great Dens. Only some of them are given.
func wideRanges() []rangeCase {
	return []rangeCase{
		{"the least one has the Den 10000", wide(-4), []impl.Load{ld(0, 43, -4), ld(1, 1, 33)}, nil, th(5398931, 20467767, -814845101, 10000), th(659, 2053, -83336, 1), 1191069, 10000},
		{"the least one has the Den 10000, the greatest 4859", wide(-4), []impl.Load{ld(0, 1, -40), ld(1, 53, 33)}, nil, th(5330987, 20346159, -811797077, 10000), th(3166819, 9920573, -403544776, 4859), 5764924167, 48590000},
		{"the least one has the Den 10001", wide(-3), []impl.Load{ld(0, 43, -20), ld(1, 48, 29)}, nil, th(5428824, 20552258, -817828474, 10001), th(663, 2062, -83648, 1), 0, 0},
		{"the greatest one has the Den 10000", wideOutside(-4), []impl.Load{ld(0, 6, -14), ld(1, 27, 17)}, nil, th(12206, 57907, -2260638, 32), th(4526067, 17871719, -720897757, 10000), 177923, 2500},
		{"the greatest one has the Den 10001", wideOutside(-3), []impl.Load{ld(0, 72, 44)}, nil, th(414, 1795, -68222, 1), th(4873547, 17741465, -696620295, 10001), 0, 0},
		{"the Dens 10145 and 10001", wideOutside(-3), []impl.Load{ld(0, 48, -40), ld(1, 34, 14)}, nil, th(3914914, 18723503, -732599622, 10145), th(4579027, 18225761, -737013983, 10001), 0, 0},
	}
}

func rangeCases() []rangeCase {
	return slices.Concat(uniqueRanges(), limitedRanges(), tiedRanges(), straightRanges())
}

func TestLeastAndGreatestThrust(t *testing.T) {
	for _, c := range rangeCases() {
		t.Run(c.name, func(t *testing.T) {
			checkRange(t, c.a, c.loads, c.want())
			checkRangeByText(t, c.a, c.loads)
			if got := impl.ThrustsOf(c.a, c.loads); !slices.Equal(got, c.thrusts) {
				t.Errorf("ThrustsOf(%v, %v) = %v, want %v", c.a, c.loads, got, c.thrusts)
			}
		})
	}
}

func TestThrustSpreadOfGreatDens(t *testing.T) {
	for _, c := range wideRanges() {
		t.Run(c.name, func(t *testing.T) {
			checkRange(t, c.a, c.loads, c.want())
			checkRangeByText(t, c.a, c.loads)
		})
	}
}

// Under other loads the same arches have thrusts of other Dens.
func TestThrustSpreadWithOtherLoads(t *testing.T) {
	shown, hidden := 0, 0
	for w := range 60 {
		for _, a := range []impl.Arch{wide(-4), wide(-3), wideOutside(-4), wideOutside(-3)} {
			p := checkRangeByText(t, a, []impl.Load{ld(0, w, w-50), ld(1, 2*w, 17)})
			if p.differs {
				shown++
			} else if p.limited {
				hidden++
			}
		}
	}
	if shown == 0 || hidden == 0 {
		t.Errorf("%d with a spread and %d without one were tried", shown, hidden)
	}
}

// The least and the greatest of two stones by hand: each has the weight 84, and
// its middle of weight is 160 / 84 away from its abutment.
func TestLeastAndGreatestByHand(t *testing.T) {
	a := limitedRanges()[3].a
	if w, m := impl.WeightLeft(a, nil, 1), impl.MomentLeft(a, nil, 1); w != 84 || m != 160 {
		t.Fatalf("the left stone has the weight %d and the moment %d", w, m)
	}
	rows := impl.RowsOf(a, nil)
	// H has to bear the moment 4*84-(4*84-160) of V and the weight about the middle:
	// the least thrust rises by 8, and the greatest one by 1.
	checkMetBy(t, th(20, 84, 0, 1), rows, 0, 3, 4)
	checkMetBy(t, th(160, 84, -640, 1), rows, 1, 2, 5)
}

// Loads change only what is least for a straight arch.
func TestStraightUnderLoads(t *testing.T) {
	for _, c := range []struct {
		name  string
		a     impl.Arch
		loads []impl.Load
		least impl.Thrust
	}{
		{"two square stones", upright(3, 0, 4), []impl.Load{ld(1, 10, 5)}, th(207, 399, 0, 4)},
		{"two thrusts", archOf(jt(-15, 0, -16, 6), jt(-11, 9, -10, 17), jt(-10, 9, -8, 17)), []impl.Load{ld(0, 128, 5), ld(1, 135, 14)}, th(141, -236, 2930, 1)},
		{"without any push", archOf(jt(-50, 7, -50, 22), jt(-25, -12, -8, 30), jt(-24, -15, -7, -16)), []impl.Load{ld(0, 519, -30), ld(0, 965, -30)}, th(0, 39194, -1959700, 25)},
	} {
		t.Run(c.name, func(t *testing.T) {
			checkRange(t, c.a, c.loads, pushRange{least: c.least, stands: true, straight: true})
			checkRangeByText(t, c.a, c.loads)
		})
	}
}

func TestRangeOfFallingArches(t *testing.T) {
	for _, c := range fallCases() {
		checkRange(t, c.a, c.loads, pushRange{})
		checkRangeByText(t, c.a, c.loads)
	}
	a, loads := sagging()
	for _, c := range []fallCase{
		{"sag", sag(), nil},
		{"sag under a load", sag(), []impl.Load{ld(0, 1, 0)}},
		{"sagging under loads", a, loads},
		{"a line of five ends", archOf(jt(-27, 0, -28, 4), jt(-22, -5, -24, 0), jt(-19, 0, -22, 3)), nil},
	} {
		checkRange(t, c.a, c.loads, pushRange{straight: true})
		checkRangeByText(t, c.a, c.loads)
	}
}

// Each of these arches stands without loads, and falls under the loads of its case.
func TestRangeWithoutLoads(t *testing.T) {
	unique := 0
	for _, c := range fallCases() {
		p := checkRangeByText(t, c.a, nil)
		if !p.stands || !p.limited || !p.differs {
			t.Errorf("%s: without loads %+v", c.name, p)
		}
		if p.unique {
			unique++
		}
	}
	if unique != 2 {
		t.Errorf("%d of the arches have one thrust alone without loads", unique)
	}
	// The least load more makes the only thrust one of several, or none.
	only := uniqueRanges()[0].a
	checkRange(t, only, []impl.Load{ld(0, 1, -33)}, pushRange{th(388, 259, -9439, 3), true, false, th(2353, 1549, -56509, 18), true, false, 25, 18, true})
	checkRange(t, only, []impl.Load{ld(1, 1, -20)}, pushRange{})
	checkRange(t, only, []impl.Load{ld(1, 0, -20)}, uniqueRanges()[0].want())
}

// The loads at the ends of their ranges keep the thrusts within theirs.
func TestRangeUnderEveryLoads(t *testing.T) {
	for _, c := range loadCases() {
		checkRangeByText(t, c.a, c.loads)
	}
	limited, straight, falls := 0, 0, 0
	for _, a := range []impl.Arch{upright(3, 0, 4), archCases()[3].a, archCases()[4].a, gable(), hump(), wide(-4)} {
		for _, loads := range someLoads(len(a.Joints) - 1) {
			switch p := checkRangeByText(t, a, loads); {
			case p.limited:
				limited++
			case p.stands:
				straight++
			default:
				falls++
			}
		}
	}
	if limited == 0 || straight == 0 || falls == 0 {
		t.Errorf("%d limited, %d straight and %d falling ones were tried", limited, straight, falls)
	}
}

// straightCase is an arch through which a straight line passes, or which it misses.
type straightCase struct {
	name string
	a    impl.Arch
	want bool
}

func linesThrough() []straightCase {
	return []straightCase{
		{"level", upright(3, 0, 4), true},
		{"level, the greatest stones", archCases()[3].a, true},
		{"level, as many joints as can be", upright(8, -20, 5), true},
		{"rising", archOf(jt(0, 0, 0, 2), jt(4, 3, 4, 5), jt(8, 6, 8, 8)), true},
		{"falling", archOf(jt(0, 6, 0, 8), jt(4, 3, 4, 5), jt(8, 0, 8, 2)), true},
		{"the sample", archCases()[4].a, true},
		{"rising steeply", archOf(jt(0, -60, 0, -20), jt(1, 0, 1, 10), jt(2, 40, 2, 60)), true},
		{"falling steeply", archOf(jt(0, 40, 0, 60), jt(1, 0, 1, 10), jt(2, -60, 2, -20)), true},
		{"rising, nearly upright", stack(), true},
		{"five hinges", fiveHinges(), false},
		{"gable", gable(), false},
		{"falling feet", fallingFeet(), false},
		{"two towers", twoTowers(), false},
		{"seven stones of an arc", archCases()[12].a, false},
	}
}

// touchingLines are arches that one line alone passes, and ones that it misses
// by as little as can be.
func touchingLines() []straightCase {
	return []straightCase{
		{"level, Outer and Inner in turn", hump(), true},
		{"level, Inner higher", archOf(jt(0, 0, 0, 4), jt(4, 5, 4, 8), jt(8, 0, 8, 4)), false},
		{"level, the first Outer lower", archOf(jt(0, 0, 0, 3), jt(4, 4, 4, 8), jt(8, 0, 8, 4)), false},
		{"level, the last Outer lower", archOf(jt(0, 0, 0, 4), jt(4, 4, 4, 8), jt(8, 0, 8, 3)), false},
		{"level, Inner and Outer in turn", sag(), true},
		{"level, Outer lower", archOf(jt(0, 4, 0, 8), jt(4, 0, 4, 3), jt(8, 4, 8, 8)), false},
		{"level, the first Inner higher", archOf(jt(0, 5, 0, 8), jt(4, 0, 4, 4), jt(8, 4, 8, 8)), false},
		{"level, the last Inner higher", archOf(jt(0, 4, 0, 8), jt(4, 0, 4, 4), jt(8, 5, 8, 8)), false},
		// The line from 0,0 to 7,5 passes 3,2 and misses 4,3, each by 1 / 7.
		{"rising, by the least", archOf(jt(0, -4, 0, 0), jt(3, 2, 3, 6), jt(7, 1, 7, 5)), true},
		{"rising, not by the least", archOf(jt(0, -4, 0, 0), jt(4, 3, 4, 7), jt(7, 1, 7, 5)), false},
		{"falling, by the least", archOf(jt(-7, 1, -7, 5), jt(-3, 2, -3, 6), jt(0, -4, 0, 0)), true},
		{"falling, not by the least", archOf(jt(-7, 1, -7, 5), jt(-4, 3, -4, 7), jt(0, -4, 0, 0)), false},
		// The line from -60,-59 to 60,60 passes 59,59 and misses -59,-58, each by 1 / 120.
		{"the longest line, by the least", archOf(jt(-60, -60, -60, -59), jt(59, 59, 59, 60), jt(60, 59, 60, 60)), true},
		{"the longest line, not by the least", archOf(jt(-60, -60, -60, -59), jt(-59, -58, -59, -50), jt(60, 59, 60, 60)), false},
		{"the longest line, falling, by the least", archOf(jt(-60, 59, -60, 60), jt(-59, 59, -59, 60), jt(60, -60, 60, -59)), true},
		{"the longest line, falling, not by the least", archOf(jt(-60, 59, -60, 60), jt(59, -58, 59, -50), jt(60, -60, 60, -59)), false},
		// The line touches ends of leaning joints.
		{"leaning joints, by the least", archOf(jt(-1, -4, 0, 0), jt(3, 2, 2, 6), jt(8, 1, 7, 5)), true},
		{"leaning joints, not by the least", archOf(jt(-1, -4, 0, 0), jt(4, 3, 3, 7), jt(8, 1, 7, 5)), false},
		// An upright line touches Inner of the first joint and Outer of the last one.
		{"beside an upright line", archOf(jt(-4, -5, -7, -4), jt(0, -6, -5, -1), jt(1, 5, -4, 6)), true},
	}
}

func TestIsStraight(t *testing.T) {
	for _, c := range slices.Concat(linesThrough(), touchingLines()) {
		t.Run(c.name, func(t *testing.T) {
			if !isArchByText(c.a.Joints) {
				t.Fatalf("%v is no arch", c.a)
			}
			if got := impl.IsStraight(c.a); got != c.want {
				t.Errorf("IsStraight(%v) = %v, want %v", c.a, got, c.want)
			}
			checkStraightByText(t, c.a)
			image, ok := impl.MirrorArch(c.a, 0)
			if got := impl.IsStraight(image); !ok || got != c.want {
				t.Errorf("IsStraight of the mirror image %v = %v, %v, want %v", image, got, ok, c.want)
			}
		})
	}
}

func checkStraightByText(t *testing.T, a impl.Arch) {
	t.Helper()
	want := isStraightByText(a)
	if got := impl.IsStraight(a); got != want {
		t.Errorf("IsStraight(%v) = %v, want %v", a, got, want)
	}
	if isArchByText(a.Joints) && isEndlessByText(a) != want {
		t.Errorf("%v can bear any push: %v, but straight: %v", a, !want, want)
	}
}

// withMoved is a copy of a with one end of joint k moved up.
func withMoved(a impl.Arch, k int, outer bool, up int) impl.Arch {
	image := copyOfArch(a)
	if outer {
		image.Joints[k].Outer.Y += up
	} else {
		image.Joints[k].Inner.Y += up
	}
	return image
}

// Each joint takes part: no line passes if one end moves over the only line.
func TestIsStraightEveryJoint(t *testing.T) {
	for _, rise := range []int{0, 1, 2, -1, -4} {
		for n := 3; n <= impl.MaxJoints; n++ {
			a := zigzag(n, rise)
			if !impl.IsStraight(a) {
				t.Errorf("%v is not straight", a)
			}
			for k := range n {
				touched := k%2 == 0
				over, back := 1, -1
				if touched {
					over, back = -1, 1
				}
				if moved := withMoved(a, k, touched, over); !impl.ArchOk(moved) || impl.IsStraight(moved) {
					t.Errorf("%v is straight, or no arch", moved)
				}
				for _, moved := range []impl.Arch{withMoved(a, k, touched, back), withMoved(a, k, !touched, back), withMoved(a, k, !touched, over)} {
					if !impl.ArchOk(moved) || !impl.IsStraight(moved) {
						t.Errorf("%v is not straight, or no arch", moved)
					}
					checkStraightByText(t, moved)
				}
			}
		}
	}
}

// All arches of two stones with upright joints of some places.
func TestIsStraightSmallArches(t *testing.T) {
	var joints [3][]impl.Joint
	for i, x := range []int{0, 1, 3} {
		for y := range 5 {
			for high := 1; high <= 3; high++ {
				joints[i] = append(joints[i], jt(x, y, x, y+high))
			}
		}
	}
	straight, not := 0, 0
	for _, p := range joints[0] {
		for _, q := range joints[1] {
			for _, r := range joints[2] {
				a := archOf(p, q, r)
				checkStraightByText(t, a)
				if impl.IsStraight(a) {
					straight++
				} else {
					not++
				}
			}
		}
	}
	if straight == 0 || not == 0 || straight+not != 15*15*15 {
		t.Errorf("%d straight arches and %d others were tried", straight, not)
	}
}

// kindsOfLines names the lines that pass all joints of a.
func kindsOfLines(a impl.Arch) []string {
	var kinds []string
	add := func(is bool, kind string) {
		if is {
			kinds = append(kinds, kind)
		}
	}
	lines := passingLines(a)
	has := func(is func(l sightLine) bool) bool { return slices.ContainsFunc(lines, is) }
	add(len(lines) > 0 && !has(func(l sightLine) bool { return l.q <= 0 }), "all rise")
	add(len(lines) > 0 && !has(func(l sightLine) bool { return l.q >= 0 }), "all fall")
	add(has(func(l sightLine) bool { return l.q == 0 }), "one is level")
	add(has(func(l sightLine) bool { return l.q < 0 }) && has(func(l sightLine) bool { return l.q > 0 }), "some rise and some fall")
	add(len(lines) > 0 && hasUprightLine(a), "an upright one as well")
	add(len(lines) == 0 && hasUprightLine(a), "an upright one alone")
	add(len(lines) == 0, "none")
	add(len(lines) == 0 && slices.ContainsFunc(sightLines(a), func(l sightLine) bool { return l.missesBy(a) == 1 }), "one misses by the least")
	add(len(lines) == 1, "one alone")
	return kinds
}

// hasUprightLine reports whether all Inner are on one side of an upright line
// and all Outer on the other one.
func hasUprightLine(a impl.Arch) bool {
	var inner, outer []int
	for _, j := range a.Joints {
		inner, outer = append(inner, j.Inner.X), append(outer, j.Outer.X)
	}
	return slices.Max(inner) <= slices.Min(outer) || slices.Max(outer) <= slices.Min(inner)
}

// leaning is an arch whose joints lean more and more, not always a valid one.
func leaning(r *rand.Rand) impl.Arch {
	n, side := 3+r.Intn(3), 2*r.Intn(2)-1
	var a impl.Arch
	x, y := -6, r.Intn(8)-4
	for range n {
		a.Joints = append(a.Joints, jt(x, y, x+side*r.Intn(12), y+r.Intn(12)-6))
		x, y = x+1+r.Intn(3), y-side*(r.Intn(8)-1)
	}
	return a
}

func TestIsStraightOfRandomArches(t *testing.T) {
	r := rand.New(rand.NewSource(13))
	tried := map[string]int{}
	for i := range 60000 {
		a, _ := randomArch(r, 10, 12)
		if i%2 == 0 {
			a = leaning(r)
		}
		checkStraightByText(t, a)
		if isArchByText(a.Joints) {
			for _, kind := range kindsOfLines(a) {
				tried[kind]++
			}
		} else if impl.IsStraight(a) {
			t.Errorf("%v is straight and no arch", a)
		}
	}
	for _, kind := range []string{"all rise", "all fall", "one is level", "some rise and some fall", "an upright one as well", "none", "one misses by the least"} {
		if tried[kind] < 10 {
			t.Errorf("only %d arches of whose lines it is true that %s were tried", tried[kind], kind)
		}
	}
	// There can be none: where joints cross an upright line one above the other,
	// the line can lean a little.
	if n := tried["an upright one alone"]; n > 0 {
		t.Errorf("%d arches are passed by upright lines alone", n)
	}
}

// kindsOfRange names what is true of an arch with these thrusts.
func kindsOfRange(p pushRange, thrusts []impl.Thrust) []string {
	var kinds []string
	add := func(is bool, kind string) {
		if is {
			kinds = append(kinds, kind)
		}
	}
	like := func(x impl.Thrust) int {
		n := 0
		for _, y := range thrusts {
			if comparedByText(x, y) == 0 {
				n++
			}
		}
		return n
	}
	add(!p.stands && p.straight, "straight and falls")
	add(!p.stands && !p.straight, "falls")
	add(p.stands && p.straight, "straight")
	add(p.straight && len(thrusts) == 1, "straight with one thrust")
	add(p.unique, "one thrust alone")
	add(p.limited && len(thrusts) == 2, "two thrusts")
	add(p.limited && len(thrusts) > 2, "several thrusts")
	add(p.limited && like(p.least) > 1, "several least ones")
	add(p.limited && like(p.greatest) > 1, "several greatest ones")
	add(p.limited && p.least != thrusts[0], "the first is not the least one")
	add(p.limited && p.greatest != thrusts[0], "the first is not the greatest one")
	add(p.limited && p.greatest != thrusts[len(thrusts)-1], "the last is not the greatest one")
	add(p.differs && p.num == 0, "spread 0")
	add(p.differs && p.num > 0 && p.den == 1, "an integer spread")
	add(p.differs && p.den > 1, "a spread in parts")
	return kinds
}

// visitRanges calls visit for arches under loads: limited, straight and falling.
func visitRanges(visit func(a impl.Arch, loads []impl.Load)) {
	visitStanding(visit)
	for _, c := range slices.Concat(rangeCases(), wideRanges()) {
		visit(c.a, c.loads)
	}
	for _, c := range slices.Concat(linesThrough(), touchingLines()) {
		visit(c.a, nil)
		visit(c.a, []impl.Load{ld(1, 5, c.a.Joints[1].Inner.X)})
	}
}

func TestRangeOfEveryArch(t *testing.T) {
	tried := map[string]int{}
	visitRanges(func(a impl.Arch, loads []impl.Load) {
		p := checkRangeByText(t, a, loads)
		for _, kind := range kindsOfRange(p, impl.ThrustsOf(a, loads)) {
			tried[kind]++
		}
	})
	for _, kind := range []string{
		"straight and falls", "falls", "straight", "straight with one thrust", "one thrust alone", "two thrusts", "several thrusts",
		"several least ones", "several greatest ones", "the first is not the least one", "the first is not the greatest one", "the last is not the greatest one",
		"spread 0", "an integer spread", "a spread in parts",
	} {
		if tried[kind] == 0 {
			t.Errorf("no arch of which it is true that %s was tried", kind)
		}
	}
}

// The bounds of H / Den are those that the rows have without any corner.
func TestRangeOfRandomArches(t *testing.T) {
	r := rand.New(rand.NewSource(1313))
	limited, straight, falls := 0, 0, 0
	for i := range 8000 {
		breadth, height := 10, 12
		if i%2 == 0 {
			breadth, height = 56, 40
		}
		a, loads := randomArch(r, breadth, height)
		if i%5 == 0 {
			a = leaning(r)
		}
		if !isArchByText(a.Joints) {
			checkRange(t, a, loads, pushRange{})
			continue
		}
		switch p := checkRangeByText(t, a, loads); {
		case p.limited:
			limited++
		case p.stands:
			straight++
		default:
			falls++
		}
	}
	if limited < 100 || straight < 100 || falls < 100 {
		t.Errorf("only %d limited, %d straight and %d falling ones were tried", limited, straight, falls)
	}
}

// further is x and a push of times along a line that passes all joints.
func further(x impl.Thrust, l sightLine, times int) (impl.Thrust, bool) {
	plus := func(n int, by int) *big.Rat {
		return new(big.Rat).Add(quotient(n, x.Den), quotient(by*times, 1))
	}
	return thrustOf(plus(x.H, l.p), plus(x.V, l.q), plus(x.M, l.r))
}

// allFurther are thrusts of a straight arch that push more and more than x.
func allFurther(a impl.Arch, x impl.Thrust) []impl.Thrust {
	var list []impl.Thrust
	for _, l := range passingLines(a) {
		for _, times := range []int{7, 70000} {
			if y, ok := further(x, l, times); ok {
				list = append(list, y)
			}
		}
	}
	return list
}

// A straight arch bears a thrust as great as one likes.
func TestStraightArchBearsAnyThrust(t *testing.T) {
	tried := map[int]int{}
	visitRanges(func(a impl.Arch, loads []impl.Load) {
		least, ok := impl.LeastThrust(a, loads)
		if !ok {
			return
		}
		for _, l := range passingLines(a) {
			for _, times := range []int{1, 1000, 10000000} {
				// A greater one need not be in range.
				x, ok := further(least, l, times)
				if !ok && times > 1 {
					continue
				}
				if !impl.StandsWith(a, loads, x) || comparedByText(x, least) <= 0 {
					t.Fatalf("%v with %v bears %v, but not %v", a, loads, least, x)
				}
				tried[times]++
			}
		}
	})
	for _, times := range []int{1, 1000, 10000000} {
		if tried[times] < 200 {
			t.Errorf("only %d thrusts %d times further were tried", tried[times], times)
		}
	}
}

// placeInRange names where x is between the least and the greatest thrust.
func placeInRange(p pushRange, x impl.Thrust) string {
	low := comparedByText(x, p.least)
	switch {
	case low < 0:
		return "below"
	case p.straight && low == 0:
		return "at the least one of a straight arch"
	case p.straight:
		return "beyond the least one of a straight arch"
	case comparedByText(x, p.greatest) > 0:
		return "above"
	case low == 0 && comparedByText(x, p.greatest) == 0:
		return "at both"
	case low == 0:
		return "at the least one"
	case comparedByText(x, p.greatest) == 0:
		return "at the greatest one"
	}
	return "between"
}

// Promise 13.
func TestEveryThrustIsBetweenTheLeastAndTheGreatest(t *testing.T) {
	stood, fell := map[string]int{}, map[string]int{}
	visitRanges(func(a impl.Arch, loads []impl.Load) {
		p := pushRangeOf(a, loads)
		thrusts := thrustsToTry(a, loads)
		if p.stands {
			thrusts = append(thrusts, allFurther(a, p.least)...)
		}
		for _, x := range thrusts {
			if !impl.StandsWith(a, loads, x) {
				if p.stands && isThrustByText(x) {
					fell[placeInRange(p, x)]++
				}
				continue
			}
			if !p.stands || p.limited == p.straight {
				t.Fatalf("%v with %v stands with %v, but has %+v", a, loads, x, p)
			}
			place := placeInRange(p, x)
			if place == "below" || place == "above" {
				t.Fatalf("%v with %v stands with %v, %s what has %+v", a, loads, x, place, p)
			}
			stood[place]++
		}
		// The least and the greatest one are such thrusts.
		if p.stands && !impl.StandsWith(a, loads, p.least) || p.limited && !impl.StandsWith(a, loads, p.greatest) {
			t.Fatalf("%v with %v does not stand with those of %+v", a, loads, p)
		}
	})
	for _, place := range []string{"at the least one of a straight arch", "beyond the least one of a straight arch", "at both", "at the least one", "at the greatest one", "between"} {
		if stood[place] == 0 {
			t.Errorf("no thrust %s was tried", place)
		}
	}
	for _, place := range []string{"below", "above", "between"} {
		if fell[place] == 0 {
			t.Errorf("no thrust %s under which an arch falls was tried", place)
		}
	}
}

func TestRangeInvalid(t *testing.T) {
	for _, c := range invalidArches() {
		for _, loads := range [][]impl.Load{nil, {}, {ld(0, 10, 1)}} {
			checkRange(t, c.a, loads, pushRange{})
		}
	}
	// A line would pass all joints of these.
	for _, a := range []impl.Arch{upright(1, 0, 4), upright(2, 0, 4), upright(9, -20, 5), zigzag(9, 1), archOf(jt(-61, 0, -61, 4), jt(0, 0, 0, 4), jt(60, 0, 60, 4))} {
		checkRange(t, a, nil, pushRange{})
	}
	for _, c := range slices.Concat(uniqueRanges()[:2], limitedRanges()[:2], straightRanges()[:2]) {
		checkRange(t, c.a, c.loads, c.want())
		straight := c.want().straight
		for _, l := range invalidLoads(len(c.a.Joints) - 1) {
			checkRange(t, c.a, l.loads, pushRange{straight: straight})
		}
		// More loads than there may be, though they have no weight.
		checkRange(t, c.a, append(make([]impl.Load, 7-len(c.loads)), c.loads...), pushRange{straight: straight})
		checkRange(t, c.a, append(make([]impl.Load, 6-len(c.loads)), c.loads...), c.want())
	}
}

func TestSameRangeAtEveryCall(t *testing.T) {
	before := runtime.GOMAXPROCS(0)
	defer runtime.GOMAXPROCS(before)
	for _, processors := range []int{1, 2, 8} {
		runtime.GOMAXPROCS(processors)
		for _, c := range slices.Concat(rangeCases(), wideRanges()) {
			for range 20 {
				checkRange(t, c.a, c.loads, c.want())
			}
		}
	}
}

func TestSameRangeFromManyGoroutines(t *testing.T) {
	cases, falling := slices.Concat(rangeCases(), wideRanges()), fallCases()
	var joined sync.WaitGroup
	for i := range 16 {
		joined.Add(1)
		go func() {
			defer joined.Done()
			for n := range 3 * len(cases) {
				c, f := cases[(i+n)%len(cases)], falling[(i+n)%len(falling)]
				if got := pushRangeOf(c.a, c.loads); got != c.want() {
					t.Errorf("%s: %+v, want %+v", c.name, got, c.want())
				}
				if got := pushRangeOf(f.a, f.loads); got != (pushRange{}) {
					t.Errorf("%s: %+v, want nothing", f.name, got)
				}
			}
		}()
	}
	joined.Wait()
}

func TestRangeArgumentsUnchanged(t *testing.T) {
	checkKeepsArguments(t, func(a impl.Arch, loads []impl.Load) { pushRangeOf(a, loads) })
}
