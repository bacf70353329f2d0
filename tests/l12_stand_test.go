package tests

import (
	"math/big"
	"math/rand"
	"runtime"
	"slices"
	"sync"
	"testing"
	"time"

	"loop.example/g03301/impl"
)

// fiveHinges has just one thrust: it passes Inner of both abutments and of the
// joint at the top, and Outer of the joints between them.
func fiveHinges() impl.Arch {
	return archOf(jt(-5, 9, -5, 11), jt(-2, 14, -2, 15), jt(0, 16, 0, 17), jt(2, 14, 2, 15), jt(5, 9, 5, 11))
}

// fourHinges has just one thrust under the load 135 in the middle, and none
// under a greater one.
func fourHinges() impl.Arch {
	return archOf(jt(-9, 2, -12, 3), jt(-5, 7, -6, 8), jt(-3, 10, -4, 14), jt(3, 10, 4, 14), jt(5, 7, 6, 8), jt(9, 2, 12, 3))
}

// twoHaunches has just one thrust under the load 43 on both outer stones, and
// none under greater ones.
func twoHaunches() impl.Arch {
	return archOf(jt(-8, 3, -8, 6), jt(-7, 8, -7, 9), jt(-3, 12, -5, 13), jt(0, 18, 0, 22), jt(3, 12, 5, 13), jt(7, 8, 7, 9), jt(8, 3, 8, 6))
}

// gable has just one thrust under the load 48 on the right, and it just meets
// all rows. There is none under a greater one.
func gable() impl.Arch {
	return archOf(jt(-3, 14, -3, 18), jt(0, 19, 0, 21), jt(3, 14, 3, 18))
}

// stack is three stones, one on top of the other, that lean to the right. A push
// to the left would pass all of its joints as well.
func stack() impl.Arch {
	return archOf(jt(0, 0, -9, 0), jt(1, 5, -8, 5), jt(2, 10, -7, 10), jt(3, 15, -6, 15))
}

// held is an arch with a load that only a push to the left could hold.
func held() (impl.Arch, []impl.Load) {
	return archOf(jt(-49, 41, -58, 60), jt(-33, 48, -31, 58), jt(-32, -50, -29, -47)), []impl.Load{ld(1, 261, 12)}
}

// standCase is an arch that stands, with all of its thrusts and the central one.
type standCase struct {
	name    string
	a       impl.Arch
	loads   []impl.Load
	thrusts []impl.Thrust
	central impl.Thrust
}

// pointCases are arches that just stand: with one thrust alone.
func pointCases() []standCase {
	one := func(name string, a impl.Arch, x impl.Thrust, loads ...impl.Load) standCase {
		return standCase{name, a, loads, []impl.Thrust{x}, x}
	}
	return []standCase{
		one("five hinges", fiveHinges(), th(12, 39, -303, 1)),
		one("five hinges, Den 2", archOf(jt(-5, 4, -6, 7), jt(-3, 9, -4, 10), jt(0, 18, 0, 19), jt(3, 9, 4, 10), jt(5, 4, 6, 7)), th(23, 192, -1052, 2)),
		one("five hinges under loads", twoHaunches(), th(61, 202, -1799, 1), ld(0, 43, -4), ld(5, 43, 4)),
		one("four hinges under a load", fourHinges(), th(1233, 3018, -29628, 8), ld(2, 135, -7)),
		one("all rows met under a load", gable(), th(0, 30, -90, 1), ld(1, 48, 6)),
	}
}

// centralCases differ in which thrust is the central one.
func centralCases() []standCase {
	square, sample := upright(3, 0, 4), archCases()[4].a
	return []standCase{
		// One corner, but other thrusts that pass all joints beside it.
		{"one corner", archOf(jt(-16, 2, -18, 12), jt(-10, 3, -8, 10), jt(-7, 10, -6, 16)), nil, []impl.Thrust{th(170, 436, -7316, 1)}, th(170, 436, -7316, 1)},
		{"two corners", archOf(jt(-15, 0, -16, 6), jt(-11, 9, -10, 17), jt(-10, 9, -8, 17)), []impl.Load{ld(0, 128, 5), ld(1, 135, 14)},
			[]impl.Thrust{th(507, 740, -11100, 1), th(141, -236, 2930, 1)}, th(324, 252, -4085, 1)},
		// Only the mixture of the last two just meets one row alone.
		{"three corners", square, nil, []impl.Thrust{th(48, 96, 0, 1), th(96, 144, 0, 1), th(96, 48, -384, 1)}, th(96, 96, -192, 1)},
		{"three corners under a load", square, []impl.Load{ld(1, 10, 5)}, []impl.Thrust{th(207, 399, 0, 4), th(207, 303, 0, 2), th(207, 96, -828, 2)}, th(414, 399, -828, 4)},
		// The mixtures of 0 and 1, 0 and 2, 0 and 3, 1 and 2, 1 and 3 and 2 and 3
		// just meet two rows each.
		{"four corners", fourHinges(), []impl.Load{ld(2, 134, -7)},
			[]impl.Thrust{th(307, 752, -7382, 2), th(1843, 4514, -44312, 12), th(462, 1129, -11085, 3), th(1851, 4514, -44376, 12)}, th(3685, 9026, -88604, 24)},
		// The mixture of 0 and 4 meets no row, and that of 1 and 5 neither.
		{"seven corners", sample, nil, []impl.Thrust{
			th(333, 222, 0, 1), th(4736, 2516, 0, 7), th(97, 222, 0, 1), th(878, 1133, 0, 4), th(342, 222, -1470, 1), th(878, 643, -3920, 4), th(4736, 592, -15392, 7),
		}, th(675, 444, -1470, 2)},
		// The mixture of 0 and 6 comes before that of 2 and 4.
		{"eleven corners", fallingFeet(), nil, []impl.Thrust{
			th(187, 1245, 0, 5), th(201, 895, 0, 3), th(0, 761, 0, 3), th(0, 249, 0, 1), th(1183, 1494, -4793, 6), th(2496, 6050, -21704, 31),
			th(940, 2241, -8024, 9), th(2496, 9388, -1676, 31), th(201, 599, -1776, 3), th(0, 249, -56, 1), th(0, 733, -168, 3),
		}, th(6383, 22410, -40120, 90)},
	}
}

// unmixedCases have corners that cannot be mixed: their Dens are too great, or
// that of the mixture.
func unmixedCases() []standCase {
	return []standCase{
		{"no mixture, both Dens too great", archOf(jt(-50, -2, -48, 13), jt(-22, 0, -41, 46), jt(-7, 16, -14, 54)), []impl.Load{ld(1, 1995, -20), ld(1, 1648, 15)},
			[]impl.Thrust{th(2738379, 9714674, -480256942, 1760), th(2542855, 8248244, -428972827, 1579)}, th(2738379, 9714674, -480256942, 1760)},
		{"no mixture, one Den too great", archOf(jt(-48, 30, -34, 55), jt(-21, -6, -17, 41), jt(-2, -24, 4, 9), jt(12, -16, 21, 8)), []impl.Load{ld(1, 1949, 30), ld(2, 280, -30)},
			[]impl.Thrust{th(4875020, 3055711, -292924728, 1132), th(5267, -302, -279417, 1)}, th(4875020, 3055711, -292924728, 1132)},
		// The only mixture just meets three rows, and the first corner does as well.
		{"the first corner has as few as the mixture", archOf(jt(-50, -13, -60, -4), jt(-45, 37, -56, 57), jt(-12, 32, -12, 37)), []impl.Load{ld(1, 2992, -45), ld(1, 2840, 40)},
			[]impl.Thrust{
				th(1030317, 5712755, -338644032, 1428), th(1030317, 5560625, -329516232, 1353), th(1256620, 10573423, -629378900, 2784),
				th(1256620, 10635133, -633081500, 2764), th(0, 135625, -7107183, 33), th(0, 178393, -9446960, 44),
			}, th(1030317, 5712755, -338644032, 1428)},
		// The two corners with four rows come first, and so would their mixture.
		{"the third corner has as few as the mixture", archOf(jt(-50, 7, -50, 22), jt(-25, -12, -8, 30), jt(-24, -15, -7, -16)), []impl.Load{ld(0, 519, -30), ld(0, 965, -30)},
			[]impl.Thrust{th(0, 39194, -1959700, 25), th(0, 55525, -2776250, 14), th(879183, 8235127, -417910631, 1955), th(879183, 7861642, -412424126, 1940)},
			th(879183, 8235127, -417910631, 1955)},
		// The mixtures with corner 1 are left out.
		{"some mixtures fail", archOf(jt(-47, 32, -49, 60), jt(-18, 8, -17, 33), jt(12, -22, 17, 7)), []impl.Load{ld(1, 2995, 20), ld(0, 269, 24)},
			[]impl.Thrust{th(2011228, -1510968, 6656200, 75), th(3984434, 3736732, -303128292, 1679), th(5721214, 1937931, -274161605, 814), th(4374558, -1725004, -177948284, 977)},
			th(2066230642, -1084583127, -15143973575, 122100)},
	}
}

func standCases() []standCase {
	return slices.Concat(pointCases(), centralCases(), unmixedCases())
}

// fallCase is an arch under loads without any thrust.
type fallCase struct {
	name  string
	a     impl.Arch
	loads []impl.Load
}

// fallCases are arches under loads that miss standing by as little as can be,
// or by more.
func fallCases() []fallCase {
	push, load := held()
	return []fallCase{
		// Each of these loads is one greater, or one further, than one that stands.
		{"five hinges and the load 1, too far left", fiveHinges(), []impl.Load{ld(1, 1, -2)}},
		{"five hinges and the load 1, too far right", fiveHinges(), []impl.Load{ld(0, 1, -4)}},
		{"four hinges", fourHinges(), []impl.Load{ld(2, 136, -7)}},
		{"two haunches", twoHaunches(), []impl.Load{ld(0, 44, -4), ld(5, 44, 4)}},
		{"two haunches, the left load", twoHaunches(), []impl.Load{ld(0, 44, -4), ld(5, 43, 4)}},
		{"two haunches, the right load", twoHaunches(), []impl.Load{ld(0, 43, -4), ld(5, 44, 4)}},
		{"gable", gable(), []impl.Load{ld(1, 49, 6)}},
		{"gable, the load further right", gable(), []impl.Load{ld(1, 48, 7)}},
		{"gable, the greatest load", gable(), []impl.Load{ld(1, 10000, 60)}},
		{"only a push to the left", push, load},
	}
}

// givenRowsByText are the rows of the document for valid arguments, and none for
// others.
func givenRowsByText(a impl.Arch, loads []impl.Load) []impl.Row {
	if !areLoadsByText(a, loads) {
		return nil
	}
	return rowsByText(a, loads)
}

// passesAllByText reports whether x passes each joint.
func passesAllByText(a impl.Arch, loads []impl.Load, x impl.Thrust) bool {
	for k := range a.Joints {
		if !passingByText(a, loads, x, k).inside {
			return false
		}
	}
	return len(a.Joints) > 0
}

// withoutUnknown are the conditions that the others imply for the unknowns
// beside u: each one that bounds u above, with each one that bounds it below.
func withoutUnknown(conditions [][4]int, u int) [][4]int {
	var left [][4]int
	for _, p := range conditions {
		if p[u] == 0 {
			left = append(left, p)
		}
		for _, q := range conditions {
			if p[u] > 0 && q[u] < 0 {
				var sum [4]int
				for i := range sum {
					sum[i] = p[u]*q[i] - q[u]*p[i]
				}
				left = append(left, sum)
			}
		}
	}
	return left
}

// rangeByText returns the bounds of the unknown u (H / Den, V / Den or M / Den)
// of the thrusts that fulfill the rows of an arch, without any corner. A bound
// that is not there is nil; without thrusts the result is false.
func rangeByText(rows []impl.Row, u int) (low *big.Rat, high *big.Rat, ok bool) {
	var conditions [][4]int
	for _, r := range rows {
		conditions = append(conditions, [...]int{r.A, r.B, r.C, r.D})
	}
	for _, other := range []int{2, 1, 0} {
		if other != u {
			conditions = withoutUnknown(conditions, other)
		}
	}
	for _, c := range conditions {
		if c[u] == 0 && c[3] < 0 {
			return nil, nil, false
		}
		if c[u] == 0 {
			continue
		}
		bound := quotient(c[3], c[u])
		if c[u] > 0 && (high == nil || bound.Cmp(high) < 0) {
			high = bound
		}
		if c[u] < 0 && (low == nil || bound.Cmp(low) > 0) {
			low = bound
		}
	}
	return low, high, low == nil || high == nil || low.Cmp(high) <= 0
}

// standsByText reports whether there is a thrust that fulfills the rows.
func standsByText(rows []impl.Row) bool {
	_, _, ok := rangeByText(rows, 0)
	return len(rows) > 0 && ok
}

// isOnlyByText reports whether x is the only thrust that fulfills the rows.
func isOnlyByText(rows []impl.Row, x impl.Thrust) bool {
	for u, n := range []int{x.H, x.V, x.M} {
		low, high, ok := rangeByText(rows, u)
		if !ok || low == nil || high == nil || low.Cmp(high) != 0 || low.Cmp(quotient(n, x.Den)) != 0 {
			return false
		}
	}
	return true
}

// twoOf is a mixture of the thrusts with the indices i and k.
type twoOf struct {
	i, k  int
	mixed impl.Thrust
	ok    bool
}

// mixturesByText are the mixtures of any two of thrusts, in the order of the
// document.
func mixturesByText(thrusts []impl.Thrust) []twoOf {
	var list []twoOf
	for i := range thrusts {
		for k := i + 1; k < len(thrusts); k++ {
			x, ok := mixedByText(thrusts[i], thrusts[k])
			list = append(list, twoOf{i, k, x, ok})
		}
	}
	return list
}

// centralByText follows the sentence of the document.
func centralByText(thrusts []impl.Thrust, rows []impl.Row) (impl.Thrust, bool) {
	all := slices.Clone(thrusts)
	for _, m := range mixturesByText(thrusts) {
		if m.ok {
			all = append(all, m.mixed)
		}
	}
	for n := range len(rows) + 1 {
		for _, x := range all {
			if len(metByText(x, rows)) == n {
				return x, true
			}
		}
	}
	return impl.Thrust{}, false
}

func checkStandsWith(t *testing.T, a impl.Arch, loads []impl.Load, x impl.Thrust, want bool) {
	t.Helper()
	if got := impl.StandsWith(a, loads, x); got != want {
		t.Errorf("StandsWith(%v, %v, %v) = %v, want %v", a, loads, x, got, want)
	}
}

// checkStanding tests all that Chapter 12 says of an arch with these thrusts.
func checkStanding(t *testing.T, a impl.Arch, loads []impl.Load, thrusts []impl.Thrust, central impl.Thrust) {
	t.Helper()
	if got := impl.ThrustsOf(a, loads); !slices.Equal(got, thrusts) {
		t.Errorf("ThrustsOf(%v, %v) = %v, want %v", a, loads, got, thrusts)
	}
	stands := len(thrusts) > 0
	if got := impl.Stands(a, loads); got != stands {
		t.Errorf("Stands(%v, %v) = %v, want %v", a, loads, got, stands)
	}
	var first impl.Thrust
	if stands {
		first = thrusts[0]
	}
	if got, ok := impl.FirstThrust(a, loads); got != first || ok != stands {
		t.Errorf("FirstThrust(%v, %v) = %v, %v, want %v, %v", a, loads, got, ok, first, stands)
	}
	if got, ok := impl.CentralThrust(a, loads); got != central || ok != stands {
		t.Errorf("CentralThrust(%v, %v) = %v, %v, want %v, %v", a, loads, got, ok, central, stands)
	}
	for _, x := range thrusts {
		checkStandsWith(t, a, loads, x, true)
	}
	if stands {
		checkStandsWith(t, a, loads, central, true)
	}
}

// checkFalls tests that no thrust passes all joints, or that an argument is not
// valid.
func checkFalls(t *testing.T, a impl.Arch, loads []impl.Load) {
	t.Helper()
	checkStanding(t, a, loads, nil, impl.Thrust{})
	for _, x := range []impl.Thrust{{}, th(0, 0, 0, 1), th(48, 96, 0, 1), th(12, 39, -303, 1), th(topForce, 0, 0, 1)} {
		checkStandsWith(t, a, loads, x, false)
	}
}

// checkStandingByText tests the functions against the sentences of the document,
// and returns the thrusts.
func checkStandingByText(t *testing.T, a impl.Arch, loads []impl.Load) []impl.Thrust {
	t.Helper()
	rows := givenRowsByText(a, loads)
	thrusts := cornersByText(rows)
	central, _ := centralByText(thrusts, rows)
	checkStanding(t, a, loads, thrusts, central)
	if standsByText(rows) != (len(thrusts) > 0) {
		t.Errorf("%v with %v has the thrusts %v, but there is a thrust: %v", a, loads, thrusts, standsByText(rows))
	}
	return thrusts
}

func TestStanding(t *testing.T) {
	for _, c := range standCases() {
		t.Run(c.name, func(t *testing.T) {
			checkStanding(t, c.a, c.loads, c.thrusts, c.central)
			checkStandingByText(t, c.a, c.loads)
		})
	}
}

// Exactly one thrust passes all joints: no other one beside it does.
func TestJustStanding(t *testing.T) {
	for _, c := range pointCases() {
		x := c.central
		if !isOnlyByText(rowsByText(c.a, c.loads), x) {
			t.Errorf("%s: %v is not the only thrust", c.name, x)
		}
		besides := besideThrust(x, 1000)
		for _, y := range besides {
			checkStandsWith(t, c.a, c.loads, y, y == x)
		}
		if len(besides) < 6 {
			t.Errorf("%s: only %v were tried", c.name, besides)
		}
	}
	// An arch with one corner need not have one thrust alone.
	one := centralCases()[0]
	if isOnlyByText(rowsByText(one.a, nil), one.central) {
		t.Errorf("%v is the only thrust of %v", one.central, one.a)
	}
}

// besideThrust are thrusts one part of factor * Den further in each direction.
func besideThrust(x impl.Thrust, factor int) []impl.Thrust {
	h, v, m, den := factor*x.H, factor*x.V, factor*x.M, factor*x.Den
	list := []impl.Thrust{x}
	for _, by := range []int{-1, 1} {
		list = append(list, th(h+by, v, m, den), th(h, v+by, m, den), th(h, v, m+by, den))
		list = append(list, th(h+by, v+by, m, den), th(h, v+by, m-by, den), th(h+by, v, m+by, den))
	}
	return slices.DeleteFunc(list, func(y impl.Thrust) bool { return !isThrustByText(y) })
}

func TestFalling(t *testing.T) {
	for _, c := range fallCases() {
		t.Run(c.name, func(t *testing.T) {
			checkFalls(t, c.a, c.loads)
			if got := checkStandingByText(t, c.a, c.loads); len(got) > 0 {
				t.Errorf("the thrusts are %v by the text", got)
			}
		})
	}
	// What is one less, or one nearer, stands.
	for _, c := range []fallCase{
		{"five hinges", fiveHinges(), []impl.Load{ld(1, 1, -1)}},
		{"five hinges", fiveHinges(), []impl.Load{ld(0, 1, -5)}},
		{"four hinges", fourHinges(), []impl.Load{ld(2, 135, -7)}},
		{"two haunches", twoHaunches(), []impl.Load{ld(0, 43, -4), ld(5, 43, 4)}},
		{"gable", gable(), []impl.Load{ld(1, 48, 6)}},
	} {
		if !impl.Stands(c.a, c.loads) || impl.Stands(c.a, slices.Concat(c.loads, []impl.Load{ld(1, 10000, 60)})) {
			t.Errorf("%s: Stands(%v, %v) is %v", c.name, c.a, c.loads, impl.Stands(c.a, c.loads))
		}
	}
}

// Each of these arches stands without loads and falls under the loads of its case.
func TestFallingUnderLoads(t *testing.T) {
	stands := 0
	for _, c := range fallCases() {
		if impl.Stands(c.a, nil) {
			checkFalls(t, c.a, c.loads)
			checkStandingByText(t, c.a, nil)
			stands++
		}
	}
	if stands < 9 {
		t.Errorf("only %d of the arches stand without loads", stands)
	}
}

// A push to the left would pass all joints of these, but is no thrust.
func TestStandsWithNegativeH(t *testing.T) {
	a := stack()
	checkStandsWith(t, a, nil, th(1, 1000, -3000, 1), true)
	checkStandsWith(t, a, nil, th(0, 1000, -3000, 1), true)
	checkStandsWith(t, a, nil, th(-1, 1000, -3000, 1), false)
	checkStandsWith(t, a, nil, th(-1, 2000, -6000, 2), false)
	for k, j := range a.Joints {
		inner, outer := momentByText(a, nil, th(-1, 1000, -3000, 1), k, j.Inner), momentByText(a, nil, th(-1, 1000, -3000, 1), k, j.Outer)
		if inner > 0 || outer < 0 {
			t.Errorf("the push to the left has the moments %d and %d at joint %d", inner, outer, k)
		}
	}
	// The rows without the last one have solutions with such an H, and only such.
	push, load := held()
	rows := rowsByText(push, load)
	_, high, ok := rangeByText(rows[:len(rows)-1], 0)
	if !ok || high == nil || high.Sign() >= 0 {
		t.Errorf("the greatest H of %v is %v, %v", push, high, ok)
	}
	checkFalls(t, push, load)
}

func TestStandsWith(t *testing.T) {
	a, load := upright(3, 0, 4), []impl.Load{ld(1, 10, 5)}
	const great = 1000000
	cases := []struct {
		name  string
		a     impl.Arch
		loads []impl.Load
		x     impl.Thrust
		want  bool
	}{
		{"within all joints", a, nil, th(100, 96, -100, 1), true},
		{"within all joints under a load", a, load, th(150, 100, -20, 1), true},
		{"within all joints of the sample", archCases()[4].a, nil, th(300, 222, -100, 1), true},
		{"the ends of all joints", a, nil, th(48, 96, 0, 1), true},
		{"the end of joint 0", a, nil, th(100, 97, 0, 1), true},
		{"the end of joint 1", a, nil, th(50, 96, -8, 1), true},
		{"the end of the last joint", a, nil, th(100, 95, -8, 1), true},
		{"not the last joint under the load", a, load, th(48, 96, 0, 1), false},
		{"no joint", a, nil, th(1, 0, 10000, 1), false},
		{"nothing", a, nil, th(0, 0, 0, 1), false},
		{"just Inner of joint 0", a, nil, th(100*great+1, 97*great, 0, great), true},
		{"not Inner of joint 0, by the least moment", a, nil, th(100*great+1, 97*great, 1, great), false},
		{"not Outer of joint 0, by the least moment", a, nil, th(50*great, 50*great, -200*great-1, great), false},
		{"just Outer of joint 1", a, nil, th(48*great+1, 96*great+1, 0, great), true},
		{"not Outer of joint 1, by the least moment", a, nil, th(48*great, 96*great, -1, great), false},
		{"just Inner of the last joint", a, nil, th(100*great, 96*great-1, -8, great), true},
		{"not Inner of the last joint, by the least moment", a, nil, th(100*great, 96*great-1, -7, great), false},
		{"not in lowest terms", a, nil, th(200, 192, -200, 2), false},
		{"Den negative", a, nil, th(-100, -96, 100, -1), false},
		{"Den 0", a, nil, th(100, 96, -100, 0), false},
		{"Den too great", a, nil, th(100*great+100, 96*great+96, 1, great+1), false},
		{"H too great", a, nil, th(topForce+1, 96, -topForce, 1), false},
		{"the greatest H", a, nil, th(topForce, 96, -topForce, 1), true},
	}
	for _, c := range cases {
		t.Run(c.name, func(t *testing.T) {
			checkStandsWith(t, c.a, c.loads, c.x, c.want)
			if got := passesAllByText(c.a, c.loads, c.x); got != c.want {
				t.Errorf("%v passes all joints by the text: %v", c.x, got)
			}
		})
	}
}

// missedJoints are the joints that x does not pass, and by what moment times
// its Den it misses the only one.
func missedJoints(a impl.Arch, loads []impl.Load, x impl.Thrust) (missed []int, by int) {
	for k := range a.Joints {
		p := passingByText(a, loads, x, k)
		if !p.inside {
			missed = append(missed, k)
			by = max(p.inner, -p.outer)
		}
	}
	return missed, by
}

// kindOfMiss names which joints x misses.
func kindOfMiss(a impl.Arch, loads []impl.Load, x impl.Thrust) string {
	missed, by := missedJoints(a, loads, x)
	switch {
	case len(missed) == 0:
		return "none"
	case len(missed) > 1:
		return "several"
	case by > 1:
		return "one by more"
	case missed[0] == 0:
		return "the first by the least"
	case missed[0] == len(a.Joints)-1:
		return "the last by the least"
	}
	return "one between by the least"
}

// thrustsToTry are thrusts of an arch, mixtures of them, ones beside both, and
// others.
func thrustsToTry(a impl.Arch, loads []impl.Load) []impl.Thrust {
	thrusts := impl.ThrustsOf(a, loads)
	near := slices.Clone(thrusts)
	for i := 1; i < len(thrusts); i++ {
		if x, ok := mixedByText(thrusts[i-1], thrusts[i]); ok {
			near = append(near, x)
		}
	}
	if x, ok := impl.CentralThrust(a, loads); ok {
		near = append(near, x)
	}
	list := slices.Concat(validThrusts(), invalidThrusts(), somePushes(a, loads)[:40])
	for _, x := range near {
		list = append(list, besideThrust(x, 1)...)
		list = append(list, besideThrust(x, topDen/x.Den)...)
		// The same push in another form is no valid thrust.
		list = append(list, th(2*x.H, 2*x.V, 2*x.M, 2*x.Den))
	}
	return list
}

// visitStanding calls visit for arches under loads: such as stand, just stand
// and fall.
func visitStanding(visit func(a impl.Arch, loads []impl.Load)) {
	ruledArches(func(a impl.Arch, loads []impl.Load, _ []impl.Row) { visit(a, loads) })
	for _, c := range standCases() {
		visit(c.a, c.loads)
	}
	for _, c := range fallCases() {
		visit(c.a, c.loads)
	}
	visit(stack(), nil)
}

// Promise 12.
func TestThrustPassesAllJointsJustIfItFulfillsAllRows(t *testing.T) {
	missed := map[string]int{}
	visitStanding(func(a impl.Arch, loads []impl.Load) {
		rows := impl.RowsOf(a, loads)
		for _, x := range thrustsToTry(a, loads) {
			passed := 0
			for k := range a.Joints {
				if impl.IsInside(a, loads, x, k) {
					passed++
				}
			}
			all := passed == len(a.Joints)
			if impl.StandsWith(a, loads, x) != all || (impl.CountBroken(x, rows) == 0) != all {
				t.Fatalf("%v passes %d joints of %v with %v: StandsWith is %v", x, passed, a, loads, impl.StandsWith(a, loads, x))
			}
			if passesAllByText(a, loads, x) != all {
				t.Fatalf("%v passes %d joints of %v with %v, but not by the text", x, passed, a, loads)
			}
			if all && !impl.Stands(a, loads) {
				t.Fatalf("%v passes all joints of %v with %v, but Stands is false", x, a, loads)
			}
			if isThrustByText(x) {
				missed[kindOfMiss(a, loads, x)]++
			}
		}
	})
	for _, kind := range []string{"none", "several", "one by more", "the first by the least", "the last by the least", "one between by the least"} {
		if missed[kind] == 0 {
			t.Errorf("no thrust that misses %s was tried", kind)
		}
	}
}

// kindsOfCentral names what distinguishes the central thrust from the others.
func kindsOfCentral(thrusts []impl.Thrust, rows []impl.Row) []string {
	central, _ := centralByText(thrusts, rows)
	fewest := len(metByText(central, rows))
	var kinds []string
	var best []twoOf
	failed := 0
	for _, m := range mixturesByText(thrusts) {
		switch {
		case !m.ok:
			failed++
		case len(metByText(m.mixed, rows)) == fewest:
			best = append(best, m)
		}
	}
	add := func(is bool, kind string) {
		if is {
			kinds = append(kinds, kind)
		}
	}
	corner := slices.Contains(thrusts, central)
	add(len(thrusts) == 0, "no thrust")
	add(len(thrusts) == 1, "one thrust")
	add(len(thrusts) == 2, "two thrusts")
	add(len(thrusts) > 2, "several thrusts")
	add(len(thrusts) > 1 && corner && len(best) == 0, "a thrust has fewer than each mixture")
	add(corner && len(best) > 0, "a thrust has as few as a mixture")
	add(corner && central != thrusts[0], "a later thrust has the fewest")
	add(!corner && len(best) == 1, "one mixture has the fewest")
	add(!corner && len(best) > 1, "several mixtures have the fewest")
	add(!corner && len(best) > 1 && best[0].k > best[1].k, "the order is that of the first index")
	add(!corner && len(best) > 1 && best[0].i < best[1].i && best[0].mixed != best[1].mixed, "other mixtures follow")
	add(!corner && fewest > 0, "the mixture just meets rows")
	add(!corner && fewest == 0, "the mixture just meets no row")
	add(failed > 0 && !corner, "some mixtures fail")
	return kinds
}

func TestThrustsOfAndCentralThrust(t *testing.T) {
	tried := map[string]int{}
	visitStanding(func(a impl.Arch, loads []impl.Load) {
		thrusts := checkStandingByText(t, a, loads)
		if got := impl.CornersOf(impl.RowsOf(a, loads)); !slices.Equal(got, thrusts) {
			t.Errorf("CornersOf(RowsOf(%v, %v)) = %v, want %v", a, loads, got, thrusts)
		}
		for _, kind := range kindsOfCentral(thrusts, rowsByText(a, loads)) {
			tried[kind]++
		}
	})
	for _, kind := range []string{
		"no thrust", "one thrust", "two thrusts", "several thrusts",
		"a thrust has fewer than each mixture", "a thrust has as few as a mixture", "a later thrust has the fewest",
		"one mixture has the fewest", "several mixtures have the fewest", "the order is that of the first index", "other mixtures follow",
		"the mixture just meets rows", "the mixture just meets no row", "some mixtures fail",
	} {
		if tried[kind] == 0 {
			t.Errorf("no arch of which it is true that %s was tried", kind)
		}
	}
}

// The loads at the ends of their ranges keep the rows within theirs.
func TestStandingUnderEveryLoads(t *testing.T) {
	for _, c := range loadCases() {
		checkStandingByText(t, c.a, c.loads)
	}
	stands, falls := 0, 0
	for _, a := range []impl.Arch{upright(3, 0, 4), archCases()[3].a, archCases()[4].a, gable()} {
		for _, loads := range someLoads(len(a.Joints) - 1) {
			if len(checkStandingByText(t, a, loads)) > 0 {
				stands++
			} else {
				falls++
			}
		}
	}
	if stands == 0 || falls == 0 {
		t.Errorf("%d that stand and %d that fall were tried", stands, falls)
	}
}

// randomArch is an arch of some places and loads, not always a valid one.
func randomArch(r *rand.Rand, wide int, high int) (impl.Arch, []impl.Load) {
	n := 3 + r.Intn(6)
	var a impl.Arch
	x := -wide
	for range n {
		y := r.Intn(2*high) - high
		a.Joints = append(a.Joints, jt(x, y, x+r.Intn(9)-4, y+r.Intn(high)-1))
		x += 1 + r.Intn(2*wide/n)
	}
	var loads []impl.Load
	for range r.Intn(3) {
		loads = append(loads, ld(r.Intn(n-1), r.Intn(300), r.Intn(2*wide)-wide))
	}
	return a, loads
}

// An arch stands just if there is a thrust at all.
func TestStandsJustIfThereIsAThrust(t *testing.T) {
	r := rand.New(rand.NewSource(12))
	stands, falls := 0, 0
	for i := range 60000 {
		wide, high := 10, 12
		if i%2 == 0 {
			wide, high = 56, 40
		}
		a, loads := randomArch(r, wide, high)
		rows := impl.RowsOf(a, loads)
		want := standsByText(rows)
		if got := impl.Stands(a, loads); got != want {
			t.Fatalf("Stands(%v, %v) = %v, want %v", a, loads, got, want)
		}
		if !slices.Equal(impl.ThrustsOf(a, loads), impl.CornersOf(rows)) {
			t.Fatalf("ThrustsOf(%v, %v) are not the corners of %v", a, loads, rows)
		}
		if want {
			stands++
		} else if len(rows) > 0 {
			falls++
		}
	}
	if stands < 1000 || falls < 1000 {
		t.Errorf("only %d that stand and %d that fall were tried", stands, falls)
	}
}

func TestStandingInvalid(t *testing.T) {
	for _, c := range invalidArches() {
		for _, loads := range [][]impl.Load{nil, {}, {ld(0, 10, 1)}} {
			checkFalls(t, c.a, loads)
		}
	}
	for _, a := range []impl.Arch{upright(3, 0, 4), archCases()[4].a, fiveHinges(), upright(8, -20, 5)} {
		if !impl.Stands(a, nil) {
			t.Errorf("%v falls", a)
		}
		for _, c := range invalidLoads(len(a.Joints) - 1) {
			checkFalls(t, a, c.loads)
		}
	}
	for _, c := range standCases() {
		for _, x := range invalidThrusts() {
			checkStandsWith(t, c.a, c.loads, x, false)
		}
		// More loads than there may be, though they have no weight.
		checkFalls(t, c.a, append(make([]impl.Load, 7-len(c.loads)), c.loads...))
		checkStanding(t, c.a, append(make([]impl.Load, 6-len(c.loads)), c.loads...), c.thrusts, c.central)
	}
}

// standing is all that Chapter 12 returns for an arch.
type standing struct {
	thrusts        []impl.Thrust
	first, central impl.Thrust
	stands, ok     bool
}

func standingOf(a impl.Arch, loads []impl.Load) standing {
	first, _ := impl.FirstThrust(a, loads)
	central, ok := impl.CentralThrust(a, loads)
	return standing{impl.ThrustsOf(a, loads), first, central, impl.Stands(a, loads), ok}
}

func sameStanding(s standing, z standing) bool {
	return slices.Equal(s.thrusts, z.thrusts) && s.first == z.first && s.central == z.central && s.stands == z.stands && s.ok == z.ok
}

// The order in which goroutines run is never visible.
func TestSameAnswerAtEveryCall(t *testing.T) {
	before := runtime.GOMAXPROCS(0)
	defer runtime.GOMAXPROCS(before)
	for _, processors := range []int{1, 2, 8} {
		runtime.GOMAXPROCS(processors)
		for _, c := range standCases() {
			want := standing{c.thrusts, c.thrusts[0], c.central, true, true}
			for range 40 {
				if got := standingOf(c.a, c.loads); !sameStanding(got, want) {
					t.Fatalf("%s: with %d processors %v, want %v", c.name, processors, got, want)
				}
			}
		}
	}
}

func TestSameAnswerFromManyGoroutines(t *testing.T) {
	cases, falling := standCases(), fallCases()
	var joined sync.WaitGroup
	for i := range 16 {
		joined.Add(1)
		go func() {
			defer joined.Done()
			for n := range 10 * len(cases) {
				c := cases[(i+n)%len(cases)]
				want := standing{c.thrusts, c.thrusts[0], c.central, true, true}
				if got := standingOf(c.a, c.loads); !sameStanding(got, want) {
					t.Errorf("%s: %v, want %v", c.name, got, want)
				}
				f := falling[(i+n)%len(falling)]
				if got := standingOf(f.a, f.loads); !sameStanding(got, standing{}) {
					t.Errorf("%s: %v, want nothing", f.name, got)
				}
			}
		}()
	}
	joined.Wait()
}

// No goroutine goes on after the call.
func TestGoroutinesAreJoined(t *testing.T) {
	a := archCases()[12].a
	before := runtime.NumGoroutine()
	for range 200 {
		standingOf(a, nil)
		standingOf(impl.Arch{}, nil)
	}
	// A goroutine that has said that it is done may still be about to end.
	for range 1000 {
		if runtime.NumGoroutine() <= before {
			return
		}
		time.Sleep(time.Millisecond)
	}
	t.Errorf("%d goroutines became %d", before, runtime.NumGoroutine())
}

func TestStandingResultsShareNoMemory(t *testing.T) {
	for _, c := range standCases() {
		a, loads := copyOfArch(c.a), slices.Clone(c.loads)
		first, second := impl.ThrustsOf(a, loads), impl.ThrustsOf(a, loads)
		for i := range first[:cap(first)] {
			first[:cap(first)][i] = th(9, 9, 9, 9)
		}
		checkStanding(t, a, loads, c.thrusts, c.central)
		a.Joints[1] = jt(9, 9, 9, 9)
		for i := range loads {
			loads[i] = ld(9, 9, 9)
		}
		if !slices.Equal(second, c.thrusts) {
			t.Errorf("%s: a change of another result or of the arguments changed %v to %v", c.name, c.thrusts, second)
		}
	}
}

func TestStandingArgumentsUnchanged(t *testing.T) {
	checkKeepsArguments(t, func(a impl.Arch, loads []impl.Load) {
		standingOf(a, loads)
		impl.StandsWith(a, loads, th(100, 222, 0, 1))
		impl.StandsWith(a, loads, impl.Thrust{})
	})
}
