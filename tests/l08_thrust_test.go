package tests

import (
	"math"
	"math/big"
	"testing"

	"loop.example/g03301/impl"
)

// The limits that the document gives in Chapter 8.
const (
	topForce = 1000000000000
	topTurn  = 10000000000000
	topDen   = 1000000
	topGiven = 4000000000000000000
)

func th(h int, v int, m int, den int) impl.Thrust {
	return impl.Thrust{H: h, V: v, M: m, Den: den}
}

// validThrusts are in range and in lowest terms: small ones, and ones at the
// ends of the ranges.
func validThrusts() []impl.Thrust {
	return []impl.Thrust{
		th(0, 0, 0, 1), th(1, 0, 0, 1), th(0, 1, 0, 1), th(0, 0, 1, 1), th(0, -1, 0, 1), th(0, 0, -1, 1),
		th(1, 2, 0, 1), th(3, 4, 0, 2), th(2, 1, 0, 2), th(2, 0, -1, 2), th(1, 0, 0, 2), th(4, -6, 9, 6),
		// Three of the four numbers have a common divisor, or each two of them.
		th(3, 2, 4, 6), th(2, 3, 4, 6), th(2, 4, 3, 6), th(2, 4, 6, 3), th(0, 5, 0, 7), th(6, 10, 15, 30), th(30, -42, 70, 105),
		th(topForce, 0, 0, 1), th(topForce, 1, 0, topDen), th(topForce-1, 0, 0, topDen), th(topForce, 0, 1, topDen-1),
		th(0, topTurn, 0, 1), th(0, -topTurn, 0, 1), th(0, 0, topTurn, 1), th(0, 0, -topTurn, 1),
		th(topForce, topTurn, -topTurn, 1), th(topForce, -topTurn, topTurn, topDen-1), th(topForce-1, topTurn, topTurn, topDen),
		th(0, 1, 0, topDen), th(1, -topTurn, topTurn, topDen), th(topDen, 1, 0, topDen), th(1, 1, 1, topDen),
		th(1, 0, 0, 999), th(1, 0, 0, 1000), th(1, 0, 0, 1001), th(topForce-1, topTurn, -topTurn, 1000), th(7, -3, 2, 997),
	}
}

// edgeInts are the ints that no sum, product or change of sign can bear.
func edgeInts() []int {
	return []int{math.MinInt, math.MinInt + 1, math.MaxInt - 1, math.MaxInt}
}

// invalidThrusts have one fault each: a number out of range or a common divisor.
func invalidThrusts() []impl.Thrust {
	list := []impl.Thrust{
		{}, th(1, 0, 0, 0), th(1, 0, 0, -1), th(-1, 0, 0, -1), th(0, 0, 0, -1), th(1, 2, 3, -2), th(1, 0, 0, -topDen),
		th(1, 0, 0, topDen+1), th(1, 0, 0, 2*topDen), th(-1, 0, 0, 1), th(-1, 3, 3, 2), th(-topForce, 0, 0, 1),
		th(topForce+1, 0, 0, 1), th(topForce+1, 1, 0, topDen), th(1, topTurn+1, 0, 1), th(1, -topTurn-1, 0, 1),
		th(1, 0, topTurn+1, 1), th(1, 0, -topTurn-1, 1), th(0, topForce, topTurn+1, 1),
		th(0, 0, 0, 2), th(0, 0, 0, 1000), th(0, 0, 0, topDen), th(2, 0, 0, 2), th(0, 3, 0, 3), th(0, 0, -5, 5),
		th(2, 2, 2, 2), th(4, 6, 8, 2), th(6, -9, 3, 3), th(6, 9, -15, 12), th(7, 0, 14, 21), th(35, 70, 0, 105),
		th(topForce, topTurn, topTurn, topDen), th(topForce, -topTurn, -topTurn, 2), th(topDen, topDen, topDen, topDen),
	}
	for _, n := range edgeInts() {
		list = append(list, th(n, 0, 0, 1), th(1, n, 0, 1), th(1, 0, n, 1), th(1, 0, 0, n), th(n, n, n, n), th(0, n, n, n))
	}
	return list
}

// isThrustByText follows the sentence of the document.
func isThrustByText(t impl.Thrust) bool {
	if t.Den < 1 || t.Den > topDen || t.H < 0 || t.H > topForce {
		return false
	}
	if t.V < -topTurn || t.V > topTurn || t.M < -topTurn || t.M > topTurn {
		return false
	}
	common := big.NewInt(0)
	for _, n := range []int{t.H, t.V, t.M, t.Den} {
		common.GCD(nil, nil, common, big.NewInt(int64(n)))
	}
	return common.Cmp(big.NewInt(1)) == 0
}

func quotient(n int, den int) *big.Rat {
	return new(big.Rat).SetFrac(big.NewInt(int64(n)), big.NewInt(int64(den)))
}

// thrustOf returns the valid thrust with these quotients, if there is one: its
// Den is the least common multiple of their denominators.
func thrustOf(h *big.Rat, v *big.Rat, m *big.Rat) (impl.Thrust, bool) {
	den := big.NewInt(1)
	for _, q := range []*big.Rat{h, v, m} {
		common := new(big.Int).GCD(nil, nil, den, q.Denom())
		den.Div(den.Mul(den, q.Denom()), common)
	}
	if den.Cmp(big.NewInt(topDen)) > 0 {
		return impl.Thrust{}, false
	}
	var parts [3]int
	for i, q := range []*big.Rat{h, v, m} {
		n := new(big.Rat).Mul(q, new(big.Rat).SetInt(den)).Num()
		low, high := big.NewInt(-topTurn), big.NewInt(topTurn)
		if i == 0 {
			low, high = big.NewInt(0), big.NewInt(topForce)
		}
		if n.Cmp(low) < 0 || n.Cmp(high) > 0 {
			return impl.Thrust{}, false
		}
		parts[i] = int(n.Int64())
	}
	return th(parts[0], parts[1], parts[2], int(den.Int64())), true
}

// madeByText follows the sentence of the document for MakeThrust.
func madeByText(h int, v int, m int, den int) (impl.Thrust, bool) {
	for _, n := range []int{h, v, m, den} {
		if n < -topGiven || n > topGiven {
			return impl.Thrust{}, false
		}
	}
	if den == 0 {
		return impl.Thrust{}, false
	}
	return thrustOf(quotient(h, den), quotient(v, den), quotient(m, den))
}

// mixedByText follows the sentence of the document for MixThrusts.
func mixedByText(a impl.Thrust, b impl.Thrust) (impl.Thrust, bool) {
	if !isThrustByText(a) || !isThrustByText(b) || a.Den > 1000 || b.Den > 1000 {
		return impl.Thrust{}, false
	}
	half := func(n int, m int) *big.Rat {
		sum := new(big.Rat).Add(quotient(n, a.Den), quotient(m, b.Den))
		return sum.Mul(sum, big.NewRat(1, 2))
	}
	return thrustOf(half(a.H, b.H), half(a.V, b.V), half(a.M, b.M))
}

// comparedByText follows the sentence of the document for CompareThrusts.
func comparedByText(a impl.Thrust, b impl.Thrust) int {
	if !isThrustByText(a) || !isThrustByText(b) {
		return -2
	}
	return quotient(a.H, a.Den).Cmp(quotient(b.H, b.Den))
}

func checkMade(t *testing.T, h int, v int, m int, den int, want impl.Thrust, ok bool) {
	t.Helper()
	if got, made := impl.MakeThrust(h, v, m, den); got != want || made != ok {
		t.Errorf("MakeThrust(%d, %d, %d, %d) = %v, %v, want %v, %v", h, v, m, den, got, made, want, ok)
	}
}

func checkMixed(t *testing.T, a impl.Thrust, b impl.Thrust, want impl.Thrust, ok bool) {
	t.Helper()
	if got, mixed := impl.MixThrusts(a, b); got != want || mixed != ok {
		t.Errorf("MixThrusts(%v, %v) = %v, %v, want %v, %v", a, b, got, mixed, want, ok)
	}
	if got, mixed := impl.MixThrusts(b, a); got != want || mixed != ok {
		t.Errorf("MixThrusts(%v, %v) = %v, %v, want %v, %v", b, a, got, mixed, want, ok)
	}
}

func checkCompared(t *testing.T, a impl.Thrust, b impl.Thrust, want int) {
	t.Helper()
	if got := impl.CompareThrusts(a, b); got != want {
		t.Errorf("CompareThrusts(%v, %v) = %d, want %d", a, b, got, want)
	}
}

func TestThrustOk(t *testing.T) {
	for _, x := range validThrusts() {
		if !impl.ThrustOk(x) {
			t.Errorf("ThrustOk(%v) is false", x)
		}
	}
	for _, x := range invalidThrusts() {
		if impl.ThrustOk(x) {
			t.Errorf("ThrustOk(%v) is true", x)
		}
	}
}

// Every thrust of these numbers.
func TestThrustOkEveryThrust(t *testing.T) {
	forces := []int{math.MinInt, -topForce, -1, 0, 1, 6, topForce - 1, topForce, topForce + 1, math.MaxInt}
	turns := []int{math.MinInt, -topTurn - 1, -topTurn, -6, -1, 0, 1, 15, topTurn, topTurn + 1, math.MaxInt}
	dens := []int{math.MinInt, -topDen, -1, 0, 1, 2, 10, 15, 999, 1000, math.MaxInt}
	good, bad := 0, 0
	for _, h := range forces {
		for _, v := range turns {
			for _, m := range turns {
				for _, den := range dens {
					x := th(h, v, m, den)
					want := isThrustByText(x)
					if want {
						good++
					} else {
						bad++
					}
					if impl.ThrustOk(x) != want {
						t.Fatalf("ThrustOk(%v) is not %v", x, want)
					}
				}
			}
		}
	}
	if good == 0 || bad == 0 {
		t.Errorf("only thrusts of one kind were tried: %d and %d", good, bad)
	}
}

func TestMakeThrust(t *testing.T) {
	cases := []struct {
		h, v, m, den int
		want         impl.Thrust
	}{
		{1, 2, 0, 1, th(1, 2, 0, 1)},
		{-4, -8, 0, -4, th(1, 2, 0, 1)},
		{-1, -1, -1, -1, th(1, 1, 1, 1)},
		{-3, 6, 9, -2, th(3, -6, -9, 2)},
		{-6, 4, -10, -8, th(3, -2, 5, 4)},
		{0, 3, -5, -1, th(0, -3, 5, 1)},
		{0, 0, 1, -2, th(0, 0, -1, 2)},
		{6, 10, 15, 30, th(6, 10, 15, 30)},
		{12, 20, 30, 60, th(6, 10, 15, 30)},
		{12, -8, 4, 6, th(6, -4, 2, 3)},
		{2, 4, 6, 2, th(1, 2, 3, 1)},
		// Zeros have the Den 1, whatever den is.
		{0, 0, 0, 1, th(0, 0, 0, 1)},
		{0, 0, 0, 2, th(0, 0, 0, 1)},
		{0, 0, 0, -1, th(0, 0, 0, 1)},
		{0, 0, 0, -7, th(0, 0, 0, 1)},
		{0, 0, 0, topDen + 1, th(0, 0, 0, 1)},
		{0, 0, 0, topGiven, th(0, 0, 0, 1)},
		{0, 0, 0, -topGiven, th(0, 0, 0, 1)},
		// Valid only in lowest terms.
		{2 * topForce, 0, 0, 2, th(topForce, 0, 0, 1)},
		{-3 * topForce, 3, 0, -3 * topDen, th(topForce, -1, 0, topDen)},
		{0, 7 * topTurn, -7 * topTurn, 7, th(0, topTurn, -topTurn, 1)},
		{5, 5, 5, 5 * topDen, th(1, 1, 1, topDen)},
		{-topForce - 1, topForce + 1, 0, -topForce - 1, th(1, -1, 0, 1)},
		// At the limits of what is given.
		{topGiven, topGiven, topGiven, topGiven, th(1, 1, 1, 1)},
		{-topGiven, -topGiven, -topGiven, -topGiven, th(1, 1, 1, 1)},
		{topGiven, -topGiven, topGiven, topGiven, th(1, -1, 1, 1)},
		{-topGiven, topGiven, -topGiven, -topGiven, th(1, -1, 1, 1)},
		{topGiven, 0, 0, 4000000, th(topForce, 0, 0, 1)},
		{-topGiven, 0, 0, -4000000, th(topForce, 0, 0, 1)},
		{0, topGiven, -topGiven, 400000, th(0, topTurn, -topTurn, 1)},
		{0, topGiven, -topGiven, -400000, th(0, -topTurn, topTurn, 1)},
		{topGiven / topDen, 0, 0, topGiven, th(1, 0, 0, topDen)},
		{-topGiven / topDen, 0, 0, -topGiven, th(1, 0, 0, topDen)},
	}
	for _, c := range cases {
		checkMade(t, c.h, c.v, c.m, c.den, c.want, true)
	}
}

func TestMakeThrustInvalid(t *testing.T) {
	cases := []struct{ h, v, m, den int }{
		{0, 0, 0, 0}, {1, 1, 1, 0}, {-1, -1, -1, 0}, {topGiven, 0, 0, 0}, {math.MinInt, 0, 0, 0}, {math.MaxInt, 1, 1, 0},
		// A negative quotient for H.
		{-1, 0, 0, 1}, {1, 0, 0, -1}, {-5, 5, 5, 5}, {5, -5, -5, -5}, {-topGiven, 0, 0, topGiven}, {1, 2, 3, -topDen},
		// Out of range even in lowest terms.
		{topForce + 1, 0, 0, 1}, {-topForce - 1, 0, 0, -1}, {1, topTurn + 1, 0, 1}, {1, -topTurn - 1, 0, 1}, {-1, topTurn + 1, 0, -1},
		{1, 0, topTurn + 1, 1}, {1, 0, -topTurn - 1, 1}, {-1, 0, topTurn + 1, -1}, {1, 0, 0, topDen + 1}, {-1, 0, 0, -topDen - 1},
		{2 * topForce, 1, 0, 2}, {2, 1, 0, 2 * topDen}, {4, 2, 6, 4*topDen + 4}, {topGiven, 0, 0, 3999999}, {topGiven, 0, 0, 1},
		{0, topGiven, 0, 399999}, {0, 0, topGiven, -399999}, {topGiven, topGiven, topGiven, -topGiven}, {1, 1, 1, topGiven}, {1, 0, 0, -topGiven},
	}
	for _, c := range cases {
		checkMade(t, c.h, c.v, c.m, c.den, impl.Thrust{}, false)
	}
}

// Numbers beyond the limits of what is given, with which there would be a thrust.
func TestMakeThrustGivenTooMuch(t *testing.T) {
	for _, n := range []int{topGiven + 1, topGiven + 2, 8000000000000000000, math.MaxInt - 1, math.MaxInt} {
		for _, s := range []int{n, -n} {
			checkMade(t, s, s, s, s, impl.Thrust{}, false)
			checkMade(t, s, 0, 0, s, impl.Thrust{}, false)
			checkMade(t, 0, 0, 0, s, impl.Thrust{}, false)
			checkMade(t, s, s, 0, s, impl.Thrust{}, false)
			checkMade(t, s, 0, s, s, impl.Thrust{}, false)
		}
	}
	// These have quotients of valid thrusts, and only the one number is too great.
	checkMade(t, topGiven+8000000, 0, 0, 8000000, impl.Thrust{}, false)
	checkMade(t, 0, topGiven+4000000, 0, 8000000, impl.Thrust{}, false)
	checkMade(t, 0, -topGiven-4000000, 0, 8000000, impl.Thrust{}, false)
	checkMade(t, 0, 0, topGiven+4000000, 8000000, impl.Thrust{}, false)
	checkMade(t, 0, 0, -topGiven-4000000, 8000000, impl.Thrust{}, false)
	checkMade(t, -topGiven-8000000, 0, 0, -8000000, impl.Thrust{}, false)
	checkMade(t, 2000000000000002, 0, 0, topGiven+4000, impl.Thrust{}, false)
	for _, n := range edgeInts() {
		for _, m := range append(edgeInts(), -1, 0, 1) {
			checkMade(t, n, m, m, m, impl.Thrust{}, false)
			checkMade(t, m, n, m, m, impl.Thrust{}, false)
			checkMade(t, m, m, n, m, impl.Thrust{}, false)
			checkMade(t, m, m, m, n, impl.Thrust{}, false)
		}
	}
}

func TestMakeThrustSmallNumbers(t *testing.T) {
	for h := -7; h <= 7; h++ {
		for v := -6; v <= 6; v++ {
			for m := -4; m <= 6; m++ {
				for den := -12; den <= 12; den++ {
					want, ok := madeByText(h, v, m, den)
					checkMade(t, h, v, m, den, want, ok)
				}
			}
		}
	}
}

// The numbers around all limits, in every combination.
func TestMakeThrustEveryLimit(t *testing.T) {
	numbers := []int{-topGiven - 1, -topGiven, -topTurn, -4000000, -2, 0, 1, 3, topForce, topForce + 1, topTurn, topTurn + 1, topGiven, topGiven + 1}
	dens := []int{math.MinInt, -topGiven - 1, -topGiven, -topForce, -topDen, -400000, -3, -1, 0, 1, 2, 4000000, topDen, topDen + 1, topForce, topGiven, topGiven + 1}
	for _, h := range numbers {
		for _, v := range numbers {
			for _, m := range numbers {
				for _, den := range dens {
					want, ok := madeByText(h, v, m, den)
					checkMade(t, h, v, m, den, want, ok)
				}
			}
		}
	}
}

// timesOf are the numbers by which those of a thrust can be multiplied.
func timesOf(x impl.Thrust) []int {
	var list []int
	most := topGiven / max(x.H, x.V, -x.V, x.M, -x.M, x.Den)
	for _, n := range []int{1, 2, 3, 6, 10, 97, 1000, 12345, 400000, 1 << 40, most - 1, most} {
		if 0 < n && n <= most {
			list = append(list, n, -n)
		}
	}
	return list
}

// Promise 8: a thrust has one form.
func TestThrustHasOneForm(t *testing.T) {
	for _, x := range validThrusts() {
		for _, n := range timesOf(x) {
			checkMade(t, n*x.H, n*x.V, n*x.M, n*x.Den, x, true)
		}
	}
}

// Promise 8: of all small numbers with the same quotients, just one is valid.
func TestSmallThrustsHaveOneForm(t *testing.T) {
	type quotients [3]string
	form := map[quotients]impl.Thrust{}
	for den := 1; den <= 12; den++ {
		for h := range 9 {
			for v := -8; v <= 8; v++ {
				for m := -8; m <= 8; m++ {
					x := th(h, v, m, den)
					q := quotients{quotient(h, den).String(), quotient(v, den).String(), quotient(m, den).String()}
					first, known := form[q]
					// The least Den comes first, and it is the valid form.
					if impl.ThrustOk(x) == known {
						t.Fatalf("ThrustOk(%v) is %v, and %v has the same quotients", x, known, first)
					}
					if !known {
						form[q], first = x, x
					}
					checkMade(t, h, v, m, den, first, true)
				}
			}
		}
	}
}

func TestCompareThrusts(t *testing.T) {
	cases := []struct {
		a, b impl.Thrust
		want int
	}{
		{th(1, 0, 0, 1), th(2, 0, 0, 1), -1},
		{th(0, 0, 0, 1), th(1, 0, 0, topDen), -1},
		{th(1, 0, 0, 3), th(1, 0, 0, 2), -1},
		{th(1, 2, 0, 1), th(3, 4, 0, 2), -1},
		{th(5, 9, 9, 1), th(6, -9, -9, 1), -1},
		{th(0, 5, 0, 7), th(0, -1, 3, 2), 0},
		{th(1, 0, 0, 1), th(1, 5, -5, 1), 0},
		// Equal quotients of different Dens: V or M is another one.
		{th(1, 0, 0, 1), th(2, 1, 0, 2), 0},
		{th(1, 0, 0, 1), th(3, 0, -1, 3), 0},
		{th(1, 1, 1, 1), th(topDen, 1, 0, topDen), 0},
		{th(2, 1, 0, 4), th(3, 0, 1, 6), 0},
		{th(topForce, 0, 0, 1), th(topForce, -topTurn, topTurn, 1), 0},
		{th(topForce, 1, 0, topDen), th(topDen, 0, 0, 1), 0},
		// The products are as great as can be.
		{th(topForce, 0, 0, 1), th(topForce, 1, 0, topDen), 1},
		{th(topForce, 0, 1, topDen-1), th(topForce, 1, 0, topDen), 1},
		{th(topForce-1, 0, 0, topDen), th(topForce, 1, 0, topDen), -1},
		{th(topForce-1, 0, 0, topDen), th(topDen, 0, 0, 1), -1},
		{th(topForce-1, 1, 0, topDen-1), th(topForce-2, 1, 0, topDen-1), 1},
		{th(1, 0, 0, topDen), th(1, 0, 0, topDen-1), -1},
	}
	for _, c := range cases {
		checkCompared(t, c.a, c.b, c.want)
		checkCompared(t, c.b, c.a, -c.want)
	}
}

func TestCompareEveryTwoThrusts(t *testing.T) {
	for _, a := range validThrusts() {
		for _, b := range validThrusts() {
			checkCompared(t, a, b, comparedByText(a, b))
		}
		checkCompared(t, a, a, 0)
	}
}

func TestCompareThrustsInvalid(t *testing.T) {
	for _, wrong := range invalidThrusts() {
		for _, x := range validThrusts() {
			checkCompared(t, wrong, x, -2)
			checkCompared(t, x, wrong, -2)
		}
		for _, other := range invalidThrusts() {
			checkCompared(t, wrong, other, -2)
		}
	}
}

func TestMixThrusts(t *testing.T) {
	cases := []struct{ a, b, want impl.Thrust }{
		{th(1, 2, 0, 1), th(2, 2, 0, 1), th(3, 4, 0, 2)},
		{th(1, 0, 0, 1), th(3, 2, -4, 1), th(2, 1, -2, 1)},
		{th(1, 0, 0, 2), th(1, 0, 0, 3), th(5, 0, 0, 12)},
		{th(0, 1, 0, 1), th(0, -1, 0, 1), th(0, 0, 0, 1)},
		{th(0, -3, 7, 2), th(0, 3, -7, 2), th(0, 0, 0, 1)},
		{th(0, 0, 0, 1), th(0, 0, 1, 1), th(0, 0, 1, 2)},
		{th(1, -1, 5, 6), th(1, 1, -4, 6), th(2, 0, 1, 12)},
		// The Dens are the greatest ones that may be mixed.
		{th(1, 0, 0, 1000), th(3, 0, 0, 1000), th(1, 0, 0, 500)},
		{th(1, 0, 0, 1000), th(2, 1, 0, 1000), th(3, 1, 0, 2000)},
		{th(1, 0, 0, 1000), th(1, 0, 0, 1), th(1001, 0, 0, 2000)},
		{th(1, 0, 0, 1000), th(0, 0, 0, 1), th(1, 0, 0, 2000)},
		// The Den of the result is great, and still in range.
		{th(1, 0, 0, 999), th(1, 0, 0, 997), th(998, 0, 0, 996003)},
		{th(1, 0, 0, 999), th(1, 0, 0, 500), th(1499, 0, 0, 999000)},
		// The numbers of the result are the greatest ones.
		{th(topForce, 0, 0, 1), th(topForce-2, 0, 0, 1), th(topForce-1, 0, 0, 1)},
		{th(topForce, topTurn, -topTurn, 1), th(topForce, -topTurn, -topTurn, 1), th(topForce, 0, -topTurn, 1)},
		{th(topForce, 0, 0, 1), th(0, 1, 0, 1), th(topForce, 1, 0, 2)},
		{th(0, topTurn, 0, 1), th(0, 0, 1, 1), th(0, topTurn, 1, 2)},
		{th(0, -topTurn, 1, 1), th(0, 0, -topTurn, 1), th(0, -topTurn, 1-topTurn, 2)},
	}
	for _, c := range cases {
		checkMixed(t, c.a, c.b, c.want, true)
	}
}

// Half of two equal thrusts is the same thrust.
func TestMixEqualThrusts(t *testing.T) {
	for _, x := range validThrusts() {
		if x.Den <= 1000 {
			checkMixed(t, x, x, x, true)
		} else {
			checkMixed(t, x, x, impl.Thrust{}, false)
		}
	}
}

func TestMixThrustsInvalid(t *testing.T) {
	for _, wrong := range invalidThrusts() {
		for _, x := range validThrusts() {
			checkMixed(t, wrong, x, impl.Thrust{}, false)
		}
		for _, other := range invalidThrusts() {
			checkMixed(t, wrong, other, impl.Thrust{}, false)
		}
	}
	cases := []struct{ a, b impl.Thrust }{
		// A Den is too great, and the result would be valid.
		{th(1, 0, 0, 1001), th(1, 0, 0, 1)}, {th(1, 0, 0, 1001), th(1, 0, 0, 1001)}, {th(2, 0, 0, 1001), th(0, 0, 0, 1)},
		{th(1, 0, 0, 1001), th(3, 0, 0, 1001)}, {th(1, 0, 0, topDen), th(1, 0, 0, topDen)}, {th(1, 0, 0, 1001), th(1, 0, 0, 1000)},
		{th(1, 0, 0, 2000), th(3, 0, 0, 2000)},
		// The result is not valid: its Den, H, V or M is too great.
		{th(1, 0, 0, 1000), th(1, 0, 0, 999)}, {th(1, 0, 0, 999), th(2, 0, 0, 997)}, {th(1, 0, 0, 999), th(1, 0, 0, 502)},
		{th(topForce, 0, 0, 1), th(topForce-1, 0, 0, 1)}, {th(topForce, 0, 0, 1), th(2, 1, 0, 1)}, {th(topForce, 0, 0, 999), th(topForce, 1, 0, 997)},
		{th(0, topTurn, 0, 1), th(0, topTurn-1, 0, 1)}, {th(0, -topTurn, 0, 1), th(0, 1-topTurn, 0, 1)}, {th(0, topTurn, 0, 1), th(1, 2, 0, 1)},
		{th(0, 0, topTurn, 1), th(0, 0, topTurn-1, 1)}, {th(0, 0, -topTurn, 1), th(0, 0, 1-topTurn, 1)}, {th(0, 0, -topTurn, 1), th(1, 0, -2, 1)},
	}
	for _, c := range cases {
		checkMixed(t, c.a, c.b, impl.Thrust{}, false)
	}
}

// smallThrusts are all valid ones of small numbers.
func smallThrusts() []impl.Thrust {
	var list []impl.Thrust
	for den := 1; den <= 4; den++ {
		for h := range 5 {
			for v := -2; v <= 2; v++ {
				for m := -1; m <= 2; m++ {
					if x := th(h, v, m, den); isThrustByText(x) {
						list = append(list, x)
					}
				}
			}
		}
	}
	return list
}

// checkHalfway tests promise 8 with what is halfway between a and b.
func checkHalfway(t *testing.T, a impl.Thrust, b impl.Thrust) {
	t.Helper()
	want, ok := mixedByText(a, b)
	checkMixed(t, a, b, want, ok)
	if !ok {
		return
	}
	x, _ := impl.MixThrusts(a, b)
	if !impl.ThrustOk(x) {
		t.Errorf("MixThrusts(%v, %v) = %v is not valid", a, b, x)
	}
	// Between two different forces, it is neither of them.
	order := comparedByText(a, b)
	checkCompared(t, a, x, order)
	checkCompared(t, x, b, order)
}

// Promise 8: what is halfway lies between.
func TestHalfwayLiesBetween(t *testing.T) {
	small := smallThrusts()
	for i, a := range small {
		for _, b := range small[i:] {
			checkHalfway(t, a, b)
		}
	}
	mixed := 0
	for _, a := range validThrusts() {
		for _, b := range validThrusts() {
			checkHalfway(t, a, b)
			if _, ok := impl.MixThrusts(a, b); ok {
				mixed++
			}
		}
	}
	if mixed == 0 || len(small) == 0 {
		t.Error("no thrusts were mixed")
	}
}

func TestHalfwayOfGreatDens(t *testing.T) {
	for a := 990; a <= 1003; a++ {
		for _, b := range []int{1, 2, 3, 498, 499, 500, 501, 502, 997, 998, 999, 1000, 1001} {
			checkHalfway(t, th(1, 0, 0, a), th(1, 0, 0, b))
			checkHalfway(t, th(1, -2, 7, a), th(3, 1, -4, b))
			checkHalfway(t, th(a+1, 5, 0, a), th(b-1, 5, 0, b))
		}
	}
}

func TestThrustText(t *testing.T) {
	cases := []struct {
		x    impl.Thrust
		want string
	}{
		{th(3, 4, 0, 2), "3,4,0,2"},
		{th(0, 0, 0, 1), "0,0,0,1"},
		{th(1, -2, 3, 4), "1,-2,3,4"},
		{th(1, 2, -3, 4), "1,2,-3,4"},
		{th(0, -10, -7, 9), "0,-10,-7,9"},
		{th(12, 345, -6789, 10), "12,345,-6789,10"},
		{th(topForce, topTurn, -topTurn, 1), "1000000000000,10000000000000,-10000000000000,1"},
		{th(topForce-1, -topTurn, topTurn, topDen), "999999999999,-10000000000000,10000000000000,1000000"},
	}
	for _, c := range cases {
		if got := impl.ThrustText(c.x); got != c.want {
			t.Errorf("ThrustText(%v) = %q, want %q", c.x, got, c.want)
		}
	}
	for _, x := range invalidThrusts() {
		if got := impl.ThrustText(x); got != "" {
			t.Errorf("ThrustText(%v) = %q, want \"\"", x, got)
		}
	}
}
