package tests

import (
	"math"
	"math/big"
	"slices"
	"testing"

	"loop.example/g03301/impl"
)

// passing is what Chapter 9 says of one joint. Where no place is to be
// returned, its denominator is 0.
type passing struct {
	right  int
	up     int
	inner  int
	outer  int
	inside bool
	part   int
	whole  int
}

// pushCase is an arch under loads and a thrust, with what Chapter 9 says of joint k.
type pushCase struct {
	name  string
	a     impl.Arch
	loads []impl.Load
	t     impl.Thrust
	k     int
	want  passing
}

// fallingFeet is an arch whose abutments fall towards their Outer.
func fallingFeet() impl.Arch {
	return archOf(jt(0, 0, -4, -1), jt(3, 5, 0, 8), jt(9, 5, 12, 8), jt(12, 0, 16, -1))
}

func pushCases() []pushCase {
	two, sample, flat := upright(3, 0, 4), archCases()[4].a, archCases()[5].a
	four := []impl.Load{ld(2, 3, 14), ld(0, 20, 1), ld(1, 100, 8), ld(0, 2, -1)}
	right := []impl.Load{ld(1, 10, 5)}
	return []pushCase{
		// The least thrust of two stones.
		{"least, joint 0", two, nil, th(48, 96, 0, 1), 0, passing{48, 96, 0, 192, true, 0, 1}},
		{"least, joint 1", two, nil, th(48, 96, 0, 1), 1, passing{48, 0, -192, 0, true, 1, 1}},
		{"least, last joint", two, nil, th(48, 96, 0, 1), 2, passing{48, -96, 0, 192, true, 0, 1}},
		{"no loads", two, []impl.Load{}, th(48, 96, 0, 1), 1, passing{48, 0, -192, 0, true, 1, 1}},
		{"halfway", two, nil, th(48, 96, 96, 1), 1, passing{48, 0, -96, 96, true, 1, 2}},
		{"halfway of the least", two, nil, th(1, 96, 190, 1), 1, passing{1, 0, -2, 2, true, 1, 2}},
		// With a load on the stone to the left, or to the right, of joint 1.
		{"load to the left, joint 0", two, []impl.Load{ld(0, 10, 1)}, th(48, 96, 0, 1), 0, passing{48, 96, 0, 192, true, 0, 1}},
		{"load to the left, joint 1", two, []impl.Load{ld(0, 10, 1)}, th(48, 96, 0, 1), 1, passing{48, -10, -162, 30, true, 27, 32}},
		{"load to the left, last joint", two, []impl.Load{ld(0, 10, 1)}, th(48, 96, 0, 1), 2, passing{48, -106, 70, 262, false, 0, 0}},
		{"load to the right, joint 1", two, right, th(48, 96, 0, 1), 1, passing{48, 0, -192, 0, true, 1, 1}},
		{"load to the right, last joint", two, right, th(48, 96, 0, 1), 2, passing{48, -106, 30, 222, false, 0, 0}},
		// Joints of all directions.
		{"sample, joint 0", sample, nil, th(100, 222, 0, 1), 0, passing{100, 222, 0, 744, true, 0, 1}},
		{"sample, joint 1", sample, nil, th(100, 222, 0, 1), 1, passing{100, 84, -466, 18, true, 233, 242}},
		{"sample, joint 2", sample, nil, th(100, 222, 0, 1), 2, passing{100, -84, -466, 18, true, 233, 242}},
		{"sample, last joint", sample, nil, th(100, 222, 0, 1), 3, passing{100, -222, 0, 744, true, 0, 1}},
		{"Den 2, joint 0", sample, nil, th(201, 443, -7, 2), 0, passing{201, 443, -7, 1482, true, 7, 1489}},
		{"Den 2, joint 1", sample, nil, th(201, 443, -7, 2), 1, passing{201, 167, -932, 39, true, 932, 971}},
		{"Den 2, joint 2", sample, nil, th(201, 443, -7, 2), 2, passing{201, -169, -926, 47, true, 926, 973}},
		{"Den 2, last joint", sample, nil, th(201, 443, -7, 2), 3, passing{201, -445, 9, 1502, false, 0, 0}},
		{"loads, joint 1", sample, four, th(100, 222, 0, 1), 1, passing{100, 62, -374, 88, true, 17, 21}},
		{"loads, joint 2", sample, four, th(100, 222, 0, 1), 2, passing{100, -206, 58, 664, false, 0, 0}},
		{"loads, last joint", sample, four, th(100, 222, 0, 1), 3, passing{100, -347, 1140, 2134, false, 0, 0}},
		// Without a force to the right, and along the joint or beside it.
		{"H 0, along joint 0", two, nil, th(0, 96, 0, 1), 0, passing{0, 96, 0, 0, true, 0, 0}},
		{"H 0, along the joint to the left", two, nil, th(0, 100, 192, 1), 1, passing{0, 4, -16, -16, false, 0, 0}},
		{"H 0, along the joint to the right", two, nil, th(0, 100, 224, 1), 1, passing{0, 4, 16, 16, false, 0, 0}},
		{"H 0, upwards along joint 1", two, nil, th(0, 100, 208, 1), 1, passing{0, 4, 0, 0, true, 0, 0}},
		{"H 0, downwards along joint 1", two, nil, th(0, 48, 0, 1), 1, passing{0, -48, 0, 0, true, 0, 0}},
		{"no force at joint 1", two, nil, th(0, 96, 192, 1), 1, passing{0, 0, 0, 0, true, 0, 0}},
		{"only a moment at joint 1", two, nil, th(0, 96, 193, 1), 1, passing{0, 0, 1, 1, false, 0, 0}},
		{"only a moment the other way", two, nil, th(0, 96, 191, 1), 1, passing{0, 0, -1, -1, false, 0, 0}},
		{"nothing at joint 0", two, nil, th(0, 0, 0, 1), 0, passing{0, 0, 0, 0, true, 0, 0}},
		{"nothing but the weight", two, nil, th(0, 0, 0, 1), 2, passing{0, -192, 768, 768, false, 0, 0}},
		{"downwards along a joint that leans to the left", sample, nil, th(1, 134, 224, 1), 1, passing{1, -4, 0, 0, true, 0, 0}},
		{"upwards along a joint that leans to the right", sample, nil, th(1, 310, 1632, 1), 2, passing{1, 4, 0, 0, true, 0, 0}},
		// Through the joint the other way: from right to left.
		{"upwards through a joint that leans to the right", sample, nil, th(0, 308, 1613, 1), 2, passing{0, 2, 1, -1, false, 0, 0}},
		{"downwards through a joint that leans to the right", sample, nil, th(0, 304, 1567, 1), 2, passing{0, -2, -1, 1, true, 1, 2}},
		{"downwards at a flat abutment", flat, nil, th(5, -10, 105, 1), 0, passing{5, -10, 15, -15, false, 0, 0}},
		{"upwards at a flat abutment", flat, nil, th(5, 10, -105, 1), 0, passing{5, 10, -15, 15, true, 1, 2}},
		{"to the right at a falling abutment", fallingFeet(), nil, th(8, 1, 2, 1), 0, passing{8, 1, 2, -2, false, 0, 0}},
		{"along a falling abutment", fallingFeet(), nil, th(4, 1, 0, 1), 0, passing{4, 1, 0, 0, true, 0, 0}},
		{"upwards at a falling abutment", fallingFeet(), nil, th(4, 3, -2, 1), 0, passing{4, 3, -2, 6, true, 1, 4}},
		{"V negative", two, nil, th(3, -5, -7, 1), 0, passing{3, -5, -7, 5, true, 7, 12}},
		{"V and M negative, last joint", two, nil, th(3, -5, -7, 2), 2, passing{3, -389, 1569, 1581, false, 0, 0}},
		// The greatest numbers.
		{"the greatest H", two, nil, th(topForce, 0, 0, 1), 1, passing{topForce, -96, 192, 4*topForce + 192, false, 0, 0}},
		{"the greatest V and M", two, nil, th(topForce, topTurn, topTurn, 1), 2, passing{topForce, topTurn - 192, 768 - 7*topTurn, 768 - 7*topTurn + 4*topForce, false, 0, 0}},
		{"the least V and M", two, nil, th(topForce, -topTurn, -topTurn, 1), 0, passing{topForce, -topTurn, -topTurn, 4*topForce - topTurn, false, 0, 0}},
		{"the greatest Den", two, nil, th(1, 0, 0, topDen), 2, passing{1, -192 * topDen, 768 * topDen, 768*topDen + 4, false, 0, 0}},
		{"far across", two, nil, th(topForce, 96, 0, 1), 1, passing{topForce, 0, -192, 4*topForce - 192, true, 3, topForce / 16}},
	}
}

// checkPassing tests all four functions at one joint.
func checkPassing(t *testing.T, a impl.Arch, loads []impl.Load, x impl.Thrust, k int, want passing) {
	t.Helper()
	if right, up := impl.PushAt(a, loads, x, k); right != want.right || up != want.up {
		t.Fatalf("PushAt(%v, %v, %v, %d) = %d, %d, want %d, %d", a, loads, x, k, right, up, want.right, want.up)
	}
	if inner, outer := impl.MomentsAt(a, loads, x, k); inner != want.inner || outer != want.outer {
		t.Fatalf("MomentsAt(%v, %v, %v, %d) = %d, %d, want %d, %d", a, loads, x, k, inner, outer, want.inner, want.outer)
	}
	if got := impl.IsInside(a, loads, x, k); got != want.inside {
		t.Fatalf("IsInside(%v, %v, %v, %d) = %v", a, loads, x, k, got)
	}
	part, whole, ok := impl.PlaceAt(a, loads, x, k)
	if part != want.part || whole != want.whole || ok != (want.whole != 0) {
		t.Fatalf("PlaceAt(%v, %v, %v, %d) = %d, %d, %v, want %d, %d", a, loads, x, k, part, whole, ok, want.part, want.whole)
	}
}

// isPushByText reports whether there is a push at joint k.
func isPushByText(a impl.Arch, loads []impl.Load, x impl.Thrust, k int) bool {
	return areLoadsByText(a, loads) && isThrustByText(x) && 0 <= k && k < len(a.Joints)
}

// heavyPart is a weight, with the moment that it has about the point 0, 0.
type heavyPart struct{ weight, moment int }

// partsLeft are the stones and loads to the left of joint k, one by one. The
// weights of stones are those of their triangles.
func partsLeft(a impl.Arch, loads []impl.Load, k int) []heavyPart {
	var parts []heavyPart
	for i := range k {
		l, r := a.Joints[i], a.Joints[i+1]
		area2, moment, _ := fanWeights(impl.Stone{Corners: []impl.Point{l.Inner, r.Inner, r.Outer, l.Outer}})
		parts = append(parts, heavyPart{3 * area2, moment})
	}
	for _, load := range loads {
		if load.Stone < k {
			parts = append(parts, heavyPart{load.Weight, load.Weight * load.X})
		}
	}
	return parts
}

// momentByText adds the moments about p of the thrust and of each weight to the
// left of joint k, which hangs down from its place.
func momentByText(a impl.Arch, loads []impl.Load, x impl.Thrust, k int, p impl.Point) int {
	sum := x.M - p.X*x.V + p.Y*x.H
	for _, part := range partsLeft(a, loads, k) {
		sum -= x.Den * (part.moment - p.X*part.weight)
	}
	return sum
}

// passingByText follows the sentences of the document.
func passingByText(a impl.Arch, loads []impl.Load, x impl.Thrust, k int) passing {
	if !isPushByText(a, loads, x, k) {
		return passing{}
	}
	got := passing{right: x.H, up: x.V}
	for _, part := range partsLeft(a, loads, k) {
		got.up -= x.Den * part.weight
	}
	got.inner = momentByText(a, loads, x, k, a.Joints[k].Inner)
	got.outer = momentByText(a, loads, x, k, a.Joints[k].Outer)
	got.inside = got.inner <= 0 && got.outer >= 0
	if got.inside && (got.inner != 0 || got.outer != 0) {
		place := big.NewRat(int64(-got.inner), int64(got.outer-got.inner))
		got.part, got.whole = int(place.Num().Int64()), int(place.Denom().Int64())
	}
	return got
}

func TestPushes(t *testing.T) {
	for _, c := range pushCases() {
		t.Run(c.name, func(t *testing.T) {
			if !impl.LoadsOk(c.a, c.loads) || !impl.ThrustOk(c.t) {
				t.Fatalf("the arch %v with %v, or the thrust %v, is not valid", c.a, c.loads, c.t)
			}
			checkPassing(t, c.a, c.loads, c.t, c.k, c.want)
			if got := passingByText(c.a, c.loads, c.t, c.k); got != c.want {
				t.Errorf("by the text: %v, want %v", got, c.want)
			}
		})
	}
}

// The moment about Inner, and that about Outer, at -1, 0 and 1: the moment
// about Inner of a push of h to the right is m, and that about Outer 4 * h more.
func TestMomentsAroundZero(t *testing.T) {
	a := upright(3, 0, 4)
	for den := 1; den <= 3; den += 2 {
		for _, h := range []int{1, 2, 5, 1000, topForce} {
			for _, around := range []int{0, -4 * h} {
				for m := around - 2; m <= around+2; m++ {
					x := th(h, 1, m, den)
					inside := m <= 0 && m+4*h >= 0
					if got := impl.IsInside(a, nil, x, 0); got != inside {
						t.Errorf("IsInside at joint 0 of %v is %v: the moments are %d and %d", x, got, m, m+4*h)
					}
					// The same push at joint 1, where stone 0 has to be borne as well.
					y := th(h, 1+96*den, m+4+192*den, den)
					if got := impl.IsInside(a, nil, y, 1); got != inside {
						t.Errorf("IsInside at joint 1 of %v is %v: the moments are %d and %d", y, got, m, m+4*h)
					}
				}
			}
		}
	}
}

// thrustFor returns the thrust with which the push at joint k has this force,
// and this moment about the point 0, 0.
func thrustFor(a impl.Arch, loads []impl.Load, k int, right int, up int, turn int) impl.Thrust {
	for _, part := range partsLeft(a, loads, k) {
		up += part.weight
		turn += part.moment
	}
	return th(right, up, turn, 1)
}

// placeByCount is where step i of count is on a joint, in lowest terms.
func placeByCount(i int, count int) (int, int) {
	place := big.NewRat(int64(i), int64(count))
	return int(place.Num().Int64()), int(place.Denom().Int64())
}

// checkThroughPoint sends a push of this force through step i of count on the
// way from Inner to Outer of joint k, or beyond the ends.
func checkThroughPoint(t *testing.T, a impl.Arch, loads []impl.Load, k int, i int, right int, up int) {
	t.Helper()
	j := a.Joints[k]
	step, count := wayOf(j)
	turn := (j.Inner.X+i*step.X)*up - (j.Inner.Y+i*step.Y)*right
	x := thrustFor(a, loads, k, right, up, turn)
	across := step.Y*right - step.X*up
	want := passing{right: right, up: up, inner: -i * across, outer: (count - i) * across}
	switch {
	case across == 0:
		want.inside = true
	case across > 0 && 0 <= i && i <= count:
		want.inside = true
		want.part, want.whole = placeByCount(i, count)
	}
	checkPassing(t, a, loads, x, k, want)
}

// Promise 9: pushes through the points of each joint, and beside it.
func TestPushesThroughPoints(t *testing.T) {
	arches := append(validArches(), fallingFeet())
	for _, a := range arches {
		n := len(a.Joints) - 1
		for _, loads := range [][]impl.Load{nil, {ld(n-1, 40, 7), ld(0, 90, -13), ld(1, 5, 5)}} {
			for k, j := range a.Joints {
				_, count := wayOf(j)
				for _, i := range []int{-count, -1, 0, 1, count / 2, count - 1, count, count + 1, 2 * count} {
					for right := range 4 {
						for up := -6; up <= 6; up++ {
							checkThroughPoint(t, a, loads, k, i, right, up)
						}
					}
				}
			}
		}
	}
}

// A push along the line of a joint passes the joint beside it only where the
// lines meet.
func TestPushAlongJointBeside(t *testing.T) {
	for _, a := range append(validArches(), fallingFeet()) {
		for k, j := range a.Joints {
			for _, beside := range []int{k - 1, k + 1} {
				if beside < 0 || beside >= len(a.Joints) {
					continue
				}
				line := a.Joints[beside]
				step, _ := wayOf(line)
				if step.X < 0 {
					step = pt(-step.X, -step.Y)
				}
				x := thrustFor(a, nil, k, step.X, step.Y, line.Inner.X*step.Y-line.Inner.Y*step.X)
				want := passingByText(a, nil, x, k)
				checkPassing(t, a, nil, x, k, want)
				if impl.SideOf(line.Inner, line.Outer, j.Inner)*impl.SideOf(line.Inner, line.Outer, j.Outer) > 0 && want.inside {
					t.Errorf("the push along joint %d of %v passes joint %d, which is all on one side", beside, a, k)
				}
			}
		}
	}
}

// somePushes are thrusts around those that pass joints of a, and the ones at
// the ends of the ranges.
func somePushes(a impl.Arch, loads []impl.Load) []impl.Thrust {
	list := validThrusts()
	for k, j := range a.Joints {
		for _, p := range []impl.Point{j.Inner, j.Outer} {
			for _, right := range []int{0, 1, 50, 300} {
				for _, up := range []int{-200, -1, 0, 45} {
					x := thrustFor(a, loads, k, right, up, p.X*up-p.Y*right)
					list = append(list, x, th(x.H, x.V, x.M+1, 1), th(x.H, x.V, x.M-1, 1), th(x.H, x.V+3, x.M-7, 1))
					list = append(list, th(2*x.H+1, 2*x.V, 2*x.M-1, 2), th(7*x.H+1, 7*x.V+2, 7*x.M-3, 7), th(1000*x.H+3, 1000*x.V-1, 1000*x.M, 1000))
				}
			}
		}
	}
	return slices.DeleteFunc(list, func(x impl.Thrust) bool { return !isThrustByText(x) })
}

// rowsAreFulfilled reports whether x fulfills the two conditions of Chapter 10
// for joint k: A * H + B * V + C * M is at most D * Den.
func rowsAreFulfilled(a impl.Arch, loads []impl.Load, x impl.Thrust, k int) bool {
	in, out := a.Joints[k].Inner, a.Joints[k].Outer
	weight, moment := 0, 0
	for _, part := range partsLeft(a, loads, k) {
		weight += part.weight
		moment += part.moment
	}
	first := in.Y*x.H-in.X*x.V+x.M <= (moment-in.X*weight)*x.Den
	second := -out.Y*x.H+out.X*x.V-x.M <= (out.X*weight-moment)*x.Den
	return first && second
}

// checkPlace tests the place against the moments, and the point at that place:
// the push has no moment about it.
func checkPlace(t *testing.T, a impl.Arch, loads []impl.Load, x impl.Thrust, k int) {
	t.Helper()
	part, whole, ok := impl.PlaceAt(a, loads, x, k)
	if !ok {
		return
	}
	inner, outer := impl.MomentsAt(a, loads, x, k)
	left := new(big.Int).Mul(big.NewInt(int64(part)), big.NewInt(int64(outer-inner)))
	right := new(big.Int).Mul(big.NewInt(int64(whole)), big.NewInt(int64(-inner)))
	if left.Cmp(right) != 0 || part < 0 || part > whole {
		t.Fatalf("PlaceAt(%v, %v, %v, %d) = %d, %d, and the moments are %d and %d", a, loads, x, k, part, whole, inner, outer)
	}
	common := new(big.Int).GCD(nil, nil, big.NewInt(int64(part)), big.NewInt(int64(whole)))
	if common.Cmp(big.NewInt(1)) != 0 {
		t.Fatalf("PlaceAt(%v, %v, %v, %d) = %d, %d: not in lowest terms", a, loads, x, k, part, whole)
	}
	force, up := impl.PushAt(a, loads, x, k)
	j := a.Joints[k]
	px := between(j.Inner.X, j.Outer.X, part, whole)
	py := between(j.Inner.Y, j.Outer.Y, part, whole)
	// The moment about the point at the place, of the push with what it has about Inner.
	px.Sub(px, big.NewRat(int64(j.Inner.X), 1)).Mul(px, big.NewRat(int64(up), 1))
	py.Sub(py, big.NewRat(int64(j.Inner.Y), 1)).Mul(py, big.NewRat(int64(force), 1))
	sum := new(big.Rat).SetInt64(int64(inner))
	if sum.Sub(sum, px).Add(sum, py).Sign() != 0 {
		t.Fatalf("PlaceAt(%v, %v, %v, %d) = %d, %d, where the push has the moment %v", a, loads, x, k, part, whole, sum)
	}
}

// between is the number that is part / whole of the way from m to n.
func between(m int, n int, part int, whole int) *big.Rat {
	way := new(big.Rat).Mul(big.NewRat(int64(n-m), 1), big.NewRat(int64(part), int64(whole)))
	return way.Add(way, big.NewRat(int64(m), 1))
}

// kindOf names what happens at a joint, so that a test can tell what it tried.
func kindOf(p passing) string {
	switch {
	case p.inner == 0 && p.outer == 0:
		return "along the joint"
	case p.inner > 0 && p.outer < 0:
		return "the other way"
	case p.inner > 0:
		return "beyond Inner"
	case p.outer < 0:
		return "beyond Outer"
	case p.inner == 0:
		return "at Inner"
	case p.outer == 0:
		return "at Outer"
	case p.whole == p.outer-p.inner:
		return "no common divisor"
	}
	return "a common divisor"
}

// Promise 9: what the functions say of a thrust that passes a joint, and of one
// that does not.
func TestPassingIsFulfillingTheRows(t *testing.T) {
	kinds := map[string]int{}
	for _, a := range append(validArches(), fallingFeet()) {
		n := len(a.Joints) - 1
		for _, loads := range [][]impl.Load{nil, {ld(0, 100, -3)}, {ld(n-1, 77, 3), ld(n/2, 10000, 60), ld(0, 1, -60)}} {
			for _, x := range somePushes(a, loads) {
				for k := range a.Joints {
					want := passingByText(a, loads, x, k)
					kinds[kindOf(want)]++
					checkPassing(t, a, loads, x, k, want)
					checkPlace(t, a, loads, x, k)
					if impl.IsInside(a, loads, x, k) != rowsAreFulfilled(a, loads, x, k) {
						t.Fatalf("IsInside(%v, %v, %v, %d) is not what the rows say", a, loads, x, k)
					}
				}
			}
		}
	}
	for _, kind := range []string{"along the joint", "the other way", "beyond Inner", "beyond Outer", "at Inner", "at Outer", "no common divisor", "a common divisor"} {
		if kinds[kind] == 0 {
			t.Errorf("no push %s was tried", kind)
		}
	}
}

// The push across a joint is the difference of both moments.
func TestMomentsDifferByPushAcross(t *testing.T) {
	for _, c := range loadCases() {
		for _, x := range validThrusts() {
			for k, j := range c.a.Joints {
				right, up := impl.PushAt(c.a, c.loads, x, k)
				inner, outer := impl.MomentsAt(c.a, c.loads, x, k)
				if outer-inner != (j.Outer.Y-j.Inner.Y)*right-(j.Outer.X-j.Inner.X)*up {
					t.Errorf("%s: MomentsAt with %v at joint %d = %d, %d, and the push is %d, %d", c.name, x, k, inner, outer, right, up)
				}
				if up != x.V-x.Den*c.weights[k] || inner != x.M-x.Den*c.moments[k]-j.Inner.X*up+j.Inner.Y*right {
					t.Errorf("%s: the push of %v at joint %d is %d, %d, with the moment %d about Inner", c.name, x, k, right, up, inner)
				}
			}
		}
	}
}

// The whole weight is to the left of the last joint, and nothing of joint 0.
func TestPushAtBothEnds(t *testing.T) {
	for _, c := range loadCases() {
		last := len(c.a.Joints) - 1
		for _, x := range validThrusts() {
			if right, up := impl.PushAt(c.a, c.loads, x, 0); right != x.H || up != x.V {
				t.Errorf("%s: PushAt of %v at joint 0 = %d, %d", c.name, x, right, up)
			}
			want := x.V - x.Den*impl.TotalOf(c.a, c.loads)
			if right, up := impl.PushAt(c.a, c.loads, x, last); right != x.H || up != want {
				t.Errorf("%s: PushAt of %v at joint %d = %d, %d, want %d, %d", c.name, x, last, right, up, x.H, want)
			}
		}
	}
}

func TestPushesAtNoJoint(t *testing.T) {
	for _, c := range pushCases() {
		for _, k := range wrongJoints(len(c.a.Joints)) {
			checkPassing(t, c.a, c.loads, c.t, k, passing{})
		}
	}
	for _, c := range loadCases() {
		for _, k := range wrongJoints(len(c.a.Joints)) {
			checkPassing(t, c.a, c.loads, th(0, 0, 0, 1), k, passing{})
			checkPassing(t, c.a, c.loads, th(1, 300, -50, 7), k, passing{})
		}
	}
}

// someJoints are numbers of joints that an arch may have, and others.
func someJoints() []int {
	return []int{math.MinInt, -1, 0, 1, 2, 3, 7, 8, math.MaxInt}
}

func TestPushesOfInvalidArches(t *testing.T) {
	for _, c := range invalidArches() {
		for _, loads := range [][]impl.Load{nil, {}, {ld(0, 10, 1)}} {
			for _, x := range []impl.Thrust{th(0, 0, 0, 1), th(48, 96, 0, 1), th(3, -5, -7, 2)} {
				for _, k := range someJoints() {
					checkPassing(t, c.a, loads, x, k, passing{})
				}
			}
		}
	}
}

func TestPushesWithInvalidLoads(t *testing.T) {
	for _, a := range []impl.Arch{upright(3, 0, 4), archCases()[4].a, upright(8, -20, 5)} {
		for _, c := range invalidLoads(len(a.Joints) - 1) {
			for _, x := range []impl.Thrust{th(0, 0, 0, 1), th(48, 96, 0, 1)} {
				for _, k := range someJoints() {
					checkPassing(t, a, c.loads, x, k, passing{})
				}
			}
		}
	}
}

func TestPushesOfInvalidThrusts(t *testing.T) {
	for _, c := range loadCases() {
		for _, x := range invalidThrusts() {
			for _, k := range someJoints() {
				checkPassing(t, c.a, c.loads, x, k, passing{})
			}
		}
	}
}

// A thrust that would pass, but is not in lowest terms, has no push.
func TestPushesNotInLowestTerms(t *testing.T) {
	for _, c := range pushCases() {
		for _, n := range []int{2, 3, 10} {
			x := th(n*c.t.H, n*c.t.V, n*c.t.M, n*c.t.Den)
			checkPassing(t, c.a, c.loads, x, c.k, passing{})
			x = th(-c.t.H, -c.t.V, -c.t.M, -c.t.Den)
			checkPassing(t, c.a, c.loads, x, c.k, passing{})
		}
	}
}

// Each number of a thrust beyond its range, with a push that would else pass.
func TestPushesOutOfRange(t *testing.T) {
	a := upright(3, 0, 4)
	for _, x := range []impl.Thrust{
		th(topForce+1, 0, 0, 1), th(-1, 1, 0, 1), th(1, topTurn+1, 0, 1), th(1, -topTurn-1, 0, 1),
		th(topForce, 0, -topTurn-1, 1), th(1, 0, topTurn+1, 1), th(1, 0, 0, topDen+1), th(1, 0, 0, 0), th(0, 0, 0, 0),
	} {
		checkPassing(t, a, nil, x, 0, passing{})
	}
	for _, x := range []impl.Thrust{th(topForce, 0, 0, 1), th(1, topTurn, 0, 1), th(1, -topTurn, 0, 1), th(1, 0, 0, topDen)} {
		checkPassing(t, a, nil, x, 0, passing{x.H, x.V, 0, 4 * x.H, true, 0, 1})
	}
}

func TestPushArgumentsUnchanged(t *testing.T) {
	checkKeepsArguments(t, func(a impl.Arch, loads []impl.Load) {
		for k := -1; k <= 4; k++ {
			for _, x := range []impl.Thrust{th(100, 222, 0, 1), th(0, 308, 1613, 1), {}} {
				impl.PushAt(a, loads, x, k)
				impl.MomentsAt(a, loads, x, k)
				impl.IsInside(a, loads, x, k)
				impl.PlaceAt(a, loads, x, k)
			}
		}
	})
}
