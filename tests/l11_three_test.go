package tests

import (
	"math"
	"math/big"
	"slices"
	"testing"

	"loop.example/g03301/impl"
)

// detByText is the determinant that the document defines.
func detByText(p impl.Row, q impl.Row, r impl.Row) int {
	if !isRowByText(p) || !isRowByText(q) || !isRowByText(r) {
		return 0
	}
	return det([3]int{p.A, p.B, p.C}, [3]int{q.A, q.B, q.C}, [3]int{r.A, r.B, r.C})
}

// takeAway subtracts factor times the equation from from.
func takeAway(from []*big.Rat, equation []*big.Rat, factor *big.Rat) {
	for i, n := range equation {
		from[i] = new(big.Rat).Sub(from[i], new(big.Rat).Mul(factor, n))
	}
}

// solvedByText solves the three equations in fractions, one unknown after the
// other.
func solvedByText(rows ...impl.Row) (impl.Thrust, bool) {
	var equations [][]*big.Rat
	for _, r := range rows {
		if !isRowByText(r) {
			return impl.Thrust{}, false
		}
		equations = append(equations, []*big.Rat{quotient(r.A, 1), quotient(r.B, 1), quotient(r.C, 1), quotient(r.D, 1)})
	}
	for u := range 3 {
		i := u + slices.IndexFunc(equations[u:], func(e []*big.Rat) bool { return e[u].Sign() != 0 })
		if i < u {
			return impl.Thrust{}, false
		}
		equations[u], equations[i] = equations[i], equations[u]
		whole := new(big.Rat).Inv(equations[u][u])
		for k := range equations[u] {
			equations[u][k] = new(big.Rat).Mul(equations[u][k], whole)
		}
		for k, e := range equations {
			if k != u {
				takeAway(e, equations[u], e[u])
			}
		}
	}
	return thrustOf(equations[0][3], equations[1][3], equations[2][3])
}

// isMetByText follows the sentence of the document for IsJustMet.
func isMetByText(x impl.Thrust, r impl.Row) bool {
	return isThrustByText(x) && isRowByText(r) && excessByText(x, r).Sign() == 0
}

// metByText follows the sentence of the document for JustMetBy.
func metByText(x impl.Thrust, rows []impl.Row) []int {
	var list []int
	for i, r := range rows {
		if isMetByText(x, r) {
			list = append(list, i)
		}
	}
	return list
}

// cornersByText follows the sentence of the document for CornersOf.
func cornersByText(rows []impl.Row) []impl.Thrust {
	if len(rows) < 3 || len(rows) > 20 || slices.ContainsFunc(rows, func(r impl.Row) bool { return !isRowByText(r) }) {
		return nil
	}
	var list []impl.Thrust
	for i := range rows {
		for k := i + 1; k < len(rows); k++ {
			for m := k + 1; m < len(rows); m++ {
				x, ok := solvedByText(rows[i], rows[k], rows[m])
				if ok && fulfillsAllByText(x, rows) && !slices.Contains(list, x) {
					list = append(list, x)
				}
			}
		}
	}
	return list
}

func checkDet(t *testing.T, p impl.Row, q impl.Row, r impl.Row, want int) {
	t.Helper()
	if got := impl.DetOfRows(p, q, r); got != want {
		t.Errorf("DetOfRows(%v, %v, %v) = %d, want %d", p, q, r, got, want)
	}
}

// checkSolved tests SolveRows, and that its solution just meets each row.
func checkSolved(t *testing.T, p impl.Row, q impl.Row, r impl.Row, want impl.Thrust, ok bool) {
	t.Helper()
	got, solved := impl.SolveRows(p, q, r)
	if got != want || solved != ok {
		t.Errorf("SolveRows(%v, %v, %v) = %v, %v, want %v, %v", p, q, r, got, solved, want, ok)
	}
	for _, one := range []impl.Row{p, q, r} {
		if met := impl.IsJustMet(got, one); solved && !met {
			t.Errorf("SolveRows(%v, %v, %v) = %v, which does not just meet %v", p, q, r, got, one)
		}
		if solved && excessByText(got, one).Sign() != 0 {
			t.Errorf("SolveRows(%v, %v, %v) = %v, which is no solution of %v", p, q, r, got, one)
		}
	}
}

func checkNotSolved(t *testing.T, p impl.Row, q impl.Row, r impl.Row) {
	t.Helper()
	checkSolved(t, p, q, r, impl.Thrust{}, false)
}

// checkMet tests IsJustMet, and JustMetBy with the one row.
func checkMet(t *testing.T, x impl.Thrust, r impl.Row, want bool) {
	t.Helper()
	if got := impl.IsJustMet(x, r); got != want {
		t.Fatalf("IsJustMet(%v, %v) = %v, want %v", x, r, got, want)
	}
	if got := impl.JustMetBy(x, []impl.Row{r}); (len(got) == 1) != want || (want && got[0] != 0) {
		t.Fatalf("JustMetBy(%v, %v) of one row = %v, want met: %v", x, r, got, want)
	}
}

func checkMetBy(t *testing.T, x impl.Thrust, rows []impl.Row, want ...int) {
	t.Helper()
	if got := impl.JustMetBy(x, rows); !slices.Equal(got, want) {
		t.Errorf("JustMetBy(%v, %v) = %v, want %v", x, rows, got, want)
	}
}

func checkCorners(t *testing.T, rows []impl.Row, want ...impl.Thrust) {
	t.Helper()
	if got := impl.CornersOf(rows); !slices.Equal(got, want) {
		t.Errorf("CornersOf(%v) = %v, want %v", rows, got, want)
	}
}

// box are the rows of H from 0 to 4, V from 0 to 3 and M from 0 to 2.
func box() []impl.Row {
	return []impl.Row{lastRow(), rw(1, 0, 0, 4), rw(0, -1, 0, 0), rw(0, 1, 0, 3), rw(0, 0, -1, 0), rw(0, 0, 1, 2)}
}

func boxCorners() []impl.Thrust {
	return []impl.Thrust{
		th(0, 0, 0, 1), th(0, 0, 2, 1), th(0, 3, 0, 1), th(0, 3, 2, 1),
		th(4, 0, 0, 1), th(4, 0, 2, 1), th(4, 3, 0, 1), th(4, 3, 2, 1),
	}
}

// tent are four rows that all meet at 2, 2, 2, and the ground below them.
func tent() []impl.Row {
	return []impl.Row{rw(1, 0, 1, 4), rw(-1, 0, 1, 0), rw(0, 1, 1, 4), rw(0, -1, 1, 0), rw(0, 0, -1, 0)}
}

// endRows have each number at one of the ends of its range, or near it, or 0.
func endRows() []impl.Row {
	var list []impl.Row
	for _, a := range []int{-topLever, topLever} {
		for _, c := range []int{-1, 1} {
			for _, d := range []int{-topBound, topBound} {
				list = append(list, rw(a, topLever, c, d), rw(a, -topLever, c, d))
			}
			list = append(list, rw(a, 1-topLever, c, topBound-1), rw(a, 0, c, -topBound), rw(0, a, 0, topBound*c), rw(a, 0, 0, topBound*c))
		}
	}
	return append(list, rw(1, -topLever, 0, topBound), rw(1, -topLever, 0, 0), rw(0, 1, 0, topBound), rw(topLever, 0, -1, -topBound), rw(0, 0, 1, topBound), lastRow())
}

// smallRows are ordinary rows: those of the box and the tent, and others.
func smallRows() []impl.Row {
	return slices.Concat(box(), tent(), []impl.Row{
		{}, rw(0, 0, 0, 1), rw(1, 2, 1, 3), rw(2, 4, 1, 6), rw(2, 4, 0, 5), rw(-3, 7, -1, 20), rw(0, -4, 1, -384), rw(-4, 4, -1, 192), rw(5, -6, 0, -7),
	})
}

// visitThrees calls visit for all threes of rows in ascending order.
func visitThrees(rows []impl.Row, visit func(p impl.Row, q impl.Row, r impl.Row)) {
	for i, p := range rows {
		for k := i + 1; k < len(rows); k++ {
			for _, r := range rows[k+1:] {
				visit(p, rows[k], r)
			}
		}
	}
}

func TestDetOfRows(t *testing.T) {
	cases := []struct {
		name    string
		p, q, r impl.Row
		want    int
	}{
		{"one number each", rw(1, 0, 0, 3), rw(0, 1, 0, 4), rw(0, 0, 1, 5), 1},
		{"one number each, negative", rw(1, 0, 0, 3), rw(0, -1, 0, 4), rw(0, 0, 1, 5), -1},
		{"greater numbers", rw(2, 0, 0, 0), rw(0, 3, 0, 0), rw(0, 0, -1, 0), -6},
		{"no zero", rw(2, 3, 1, 0), rw(-4, 5, -1, 0), rw(7, -6, 1, 0), -22},
		{"no zero, positive", rw(2, 3, 1, 0), rw(-4, 5, 1, 0), rw(-7, -6, 1, 0), 72},
		{"each of the six products alone, A B C", rw(7, 0, 0, 0), rw(0, 11, 0, 0), rw(0, 0, 1, 0), 77},
		{"each of the six products alone, A C B", rw(7, 0, 0, 0), rw(0, 0, 1, 0), rw(0, 11, 0, 0), -77},
		{"each of the six products alone, B A C", rw(0, 11, 0, 0), rw(7, 0, 0, 0), rw(0, 0, 1, 0), -77},
		{"each of the six products alone, B C A", rw(0, 11, 0, 0), rw(0, 0, 1, 0), rw(7, 0, 0, 0), 77},
		{"each of the six products alone, C A B", rw(0, 0, 1, 0), rw(7, 0, 0, 0), rw(0, 11, 0, 0), 77},
		{"each of the six products alone, C B A", rw(0, 0, 1, 0), rw(0, 11, 0, 0), rw(7, 0, 0, 0), -77},
		{"rows of an arch", rw(0, 0, 1, 0), rw(-4, 4, -1, 192), rw(0, -8, 1, -768), 32},
		{"the greatest", rw(100, 100, 1, 0), rw(-100, 100, 1, 0), rw(-100, -100, 1, 0), 40000},
		{"the least", rw(-100, -100, 1, topBound), rw(-100, 100, 1, -topBound), rw(100, 100, 1, topBound), -40000},
		{"three zero rows", impl.Row{}, impl.Row{}, impl.Row{}, 0},
		{"a zero row", rw(1, 0, 0, 3), impl.Row{}, rw(0, 0, 1, 5), 0},
		{"only D in a row", rw(1, 0, 0, 3), rw(0, 1, 0, 4), rw(0, 0, 0, 5), 0},
		{"the sum of the others", rw(1, 0, 1, 3), rw(2, 5, 0, 4), rw(3, 5, 1, 9), 0},
		{"the difference of the others", rw(1, 0, 1, 3), rw(2, 5, 1, 4), rw(1, 5, 0, 9), 0},
		{"no A", rw(0, 4, 1, 3), rw(0, 5, 1, 4), rw(0, -6, 1, 9), 0},
		{"no B", rw(4, 0, 1, 3), rw(5, 0, 1, 4), rw(-6, 0, 1, 9), 0},
		{"no C", rw(4, 2, 0, 3), rw(5, 1, 0, 4), rw(-6, 7, 0, 9), 0},
	}
	for _, c := range cases {
		t.Run(c.name, func(t *testing.T) {
			checkDet(t, c.p, c.q, c.r, c.want)
			// All three turned around, and two of them exchanged.
			checkDet(t, c.q, c.r, c.p, c.want)
			checkDet(t, c.r, c.p, c.q, c.want)
			checkDet(t, c.q, c.p, c.r, -c.want)
			checkDet(t, c.p, c.r, c.q, -c.want)
			checkDet(t, c.r, c.q, c.p, -c.want)
			if got := detByText(c.p, c.q, c.r); got != c.want {
				t.Errorf("the determinant is %d by the text, want %d", got, c.want)
			}
		})
	}
}

func TestDetOfRowsThatDepend(t *testing.T) {
	p, q := rw(3, -7, 1, 20), rw(2, 5, 1, -4)
	var depending []impl.Row
	for _, d := range []int{20, 19, 0, -20, topBound, -topBound} {
		// The row itself, with its D and with others, and turned around.
		depending = append(depending, rw(3, -7, 1, d), rw(-3, 7, -1, d), rw(0, 0, 0, d))
	}
	for _, r := range depending {
		checkDet(t, p, q, r, 0)
		checkDet(t, p, r, q, 0)
		checkDet(t, r, p, q, 0)
		checkDet(t, p, p, r, 0)
		checkDet(t, r, r, r, 0)
		checkNotSolved(t, p, q, r)
		checkNotSolved(t, p, r, q)
		checkNotSolved(t, r, p, q)
		checkNotSolved(t, r, r, q)
		checkNotSolved(t, r, r, r)
	}
	for n := -9; n <= 9; n++ {
		// Rows without C, one of which is n times the other one.
		checkDet(t, rw(10, -3, 0, 7), rw(10*n, -3*n, 0, 7*n), q, 0)
		checkDet(t, rw(10, -3, 0, 7), q, rw(10*n, -3*n, 0, 8), 0)
		checkDet(t, q, rw(10, -3, 0, 7), rw(10*n, -3*n, 0, 7*n), 0)
		checkNotSolved(t, rw(10, -3, 0, 7), rw(10*n, -3*n, 0, 7*n), q)
		checkNotSolved(t, rw(10, -3, 0, 7), q, rw(10*n, -3*n, 0, 8))
		checkNotSolved(t, q, rw(10, -3, 0, 7), rw(10*n, -3*n, 0, 7*n))
	}
}

// D takes no part in the determinant, but it must be in range.
func TestDetOfRowsWithoutD(t *testing.T) {
	ds := []int{-topBound, -17, -1, 0, 1, 17, topBound}
	for _, d := range ds {
		for _, e := range ds {
			for _, f := range ds {
				checkDet(t, rw(2, 3, 1, d), rw(-4, 5, -1, e), rw(7, -6, 1, f), -22)
			}
		}
	}
	checkDet(t, rw(2, 3, 1, topBound+1), rw(-4, 5, -1, 0), rw(7, -6, 1, 0), 0)
	checkDet(t, rw(2, 3, 1, 0), rw(-4, 5, -1, -topBound-1), rw(7, -6, 1, 0), 0)
	checkDet(t, rw(2, 3, 1, 0), rw(-4, 5, -1, 0), rw(7, -6, 1, math.MinInt), 0)
}

// Each of the three rows alone is not valid.
func TestThreeRowsInvalid(t *testing.T) {
	p, q, r := rw(1, 0, 0, 3), rw(1, 1, 0, 4), rw(1, -1, 1, 5)
	checkDet(t, p, q, r, 1)
	checkSolved(t, p, q, r, th(3, 1, 3, 1), true)
	for _, bad := range invalidRows() {
		checkDet(t, bad, q, r, 0)
		checkDet(t, p, bad, r, 0)
		checkDet(t, p, q, bad, 0)
		checkDet(t, bad, bad, bad, 0)
		checkNotSolved(t, bad, q, r)
		checkNotSolved(t, p, bad, r)
		checkNotSolved(t, p, q, bad)
		checkNotSolved(t, bad, bad, bad)
	}
	// One number of one row at the end of its range, and one beyond it.
	zero := rw(-1, 0, 0, 0)
	checkSolved(t, zero, rw(0, 1, 0, 0), rw(0, 100, 1, 0), th(0, 0, 0, 1), true)
	checkNotSolved(t, zero, rw(0, 1, 0, 0), rw(0, 101, 1, 0))
	checkSolved(t, rw(-100, 0, 0, 0), rw(0, 1, 0, 0), rw(0, 0, 1, 0), th(0, 0, 0, 1), true)
	checkNotSolved(t, rw(-101, 0, 0, 0), rw(0, 1, 0, 0), rw(0, 0, 1, 0))
	checkSolved(t, zero, rw(0, 1, 0, 0), rw(0, 0, -1, 0), th(0, 0, 0, 1), true)
	checkNotSolved(t, zero, rw(0, 1, 0, 0), rw(0, 0, -2, 0))
	checkSolved(t, zero, rw(0, 1, 0, topBound), rw(0, 0, 1, 0), th(0, topBound, 0, 1), true)
	checkNotSolved(t, zero, rw(0, 1, 0, topBound+1), rw(0, 0, 1, 0))
}

func TestSolveRows(t *testing.T) {
	cases := []struct {
		name    string
		p, q, r impl.Row
		det     int
		want    impl.Thrust
	}{
		{"one number each", rw(1, 0, 0, 3), rw(0, 1, 0, 4), rw(0, 0, 1, 5), 1, th(3, 4, 5, 1)},
		{"negative V and M", rw(1, 0, 0, 3), rw(0, 1, 0, -4), rw(0, 0, 1, -5), 1, th(3, -4, -5, 1)},
		{"negative determinant", rw(-1, 0, 0, -3), rw(0, 1, 0, 4), rw(0, 0, 1, 5), -1, th(3, 4, 5, 1)},
		{"all zeros", rw(-1, 0, 0, 0), rw(0, 1, 0, 0), rw(0, 0, 1, 0), -1, th(0, 0, 0, 1)},
		{"all zeros, greater numbers", rw(-9, 4, 1, 0), rw(0, 6, 1, 0), rw(0, 0, 1, 0), -54, th(0, 0, 0, 1)},
		{"Den 1, but another determinant", rw(2, 0, 0, 6), rw(0, 3, 0, 12), rw(0, 0, -1, 7), -6, th(3, 4, -7, 1)},
		{"Den 2", rw(2, 0, 0, 3), rw(0, 1, 0, 4), rw(0, 0, 1, 5), 2, th(3, 8, 10, 2)},
		{"Den 2, H whole", rw(1, 0, 0, 3), rw(0, 2, 0, -5), rw(0, 0, 1, 5), 2, th(6, -5, 10, 2)},
		{"Den 4, M a half", rw(1, 1, 0, 4), rw(1, -1, 1, 0), rw(1, -1, -1, 1), 4, th(9, 7, -2, 4)},
		{"Den 3 of the determinant 6", rw(2, 0, 0, 4), rw(0, 3, 0, 5), rw(0, 0, 1, 0), 6, th(6, 5, 0, 3)},
		{"Den 6 of three fractions", rw(2, 0, 0, 1), rw(0, 3, 0, 1), rw(1, 1, 1, 1), 6, th(3, 2, 1, 6)},
		{"Den 97", rw(97, 0, 0, 1), rw(0, 1, 0, -1), rw(0, 0, -1, 2), -97, th(1, -97, -194, 97)},
		{"Den 100 of the determinant -10000", rw(-100, 0, 0, -1), rw(0, 100, 0, -3), rw(1, 1, 1, 0), -10000, th(1, -3, 2, 100)},
		{"rows of an arch", rw(0, 0, 1, 0), rw(-4, 4, -1, 192), rw(0, -8, 1, -768), 32, th(48, 96, 0, 1)},
		{"the greatest determinant", rw(100, 100, 1, 1), rw(-100, 100, 1, 0), rw(-100, -100, 1, 0), 40000, th(1, 0, 100, 200)},
	}
	for _, c := range cases {
		t.Run(c.name, func(t *testing.T) {
			checkDet(t, c.p, c.q, c.r, c.det)
			// The order of the rows makes no difference.
			checkSolved(t, c.p, c.q, c.r, c.want, true)
			checkSolved(t, c.q, c.r, c.p, c.want, true)
			checkSolved(t, c.r, c.p, c.q, c.want, true)
			checkSolved(t, c.q, c.p, c.r, c.want, true)
			checkSolved(t, c.p, c.r, c.q, c.want, true)
			checkSolved(t, c.r, c.q, c.p, c.want, true)
		})
	}
}

// Threes of rows with a solution that is no valid thrust.
func TestSolveRowsWithoutThrust(t *testing.T) {
	v, m := rw(0, 1, 0, 4), rw(0, 0, 1, 5)
	checkSolved(t, rw(1, 0, 0, 1), v, m, th(1, 4, 5, 1), true)
	checkSolved(t, rw(1, 0, 0, 0), v, m, th(0, 4, 5, 1), true)
	checkSolved(t, rw(-100, 0, 0, -1), v, m, th(1, 400, 500, 100), true)
	checkSolved(t, rw(-100, 0, 0, 0), v, m, th(0, 4, 5, 1), true)
	for _, r := range []impl.Row{rw(1, 0, 0, -1), rw(-1, 0, 0, 1), rw(100, 0, 0, -1), rw(-100, 0, 0, 1), rw(1, 0, 0, -topBound), rw(1, 1, 0, 3), rw(1, 0, 1, 4), rw(-1, 1, 1, 10)} {
		checkNotSolved(t, r, v, m)
		checkNotSolved(t, m, r, v)
		checkNotSolved(t, v, m, r)
		checkNotSolved(t, m, v, r)
	}
	// H 100 times V, and M 100 times H.
	p, q := rw(1, -100, 0, 0), rw(0, 1, 0, topBound)
	checkSolved(t, p, q, rw(100, 0, -1, 1), th(100*topBound, topBound, topTurn-1, 1), true)
	checkSolved(t, p, q, rw(100, 0, -1, 0), th(100*topBound, topBound, topTurn, 1), true)
	checkNotSolved(t, p, q, rw(100, 0, -1, -1))
	checkNotSolved(t, p, q, rw(100, 0, -1, -topBound))
	checkSolved(t, p, q, rw(100, 0, 1, 1), th(100*topBound, topBound, -topTurn+1, 1), true)
	checkSolved(t, p, q, rw(100, 0, 1, 0), th(100*topBound, topBound, -topTurn, 1), true)
	checkNotSolved(t, p, q, rw(100, 0, 1, -1))
	checkNotSolved(t, p, q, rw(100, 0, 1, -topBound))
	// With Den 2, M / Den of only half of its range is too great.
	half := rw(0, 2, 0, topBound-1)
	checkSolved(t, p, half, rw(100, 0, -1, -5000), th(100*(topBound-1), topBound-1, topTurn, 2), true)
	checkNotSolved(t, p, half, rw(100, 0, -1, -5001))
	checkSolved(t, p, half, rw(100, 0, 1, -5000), th(100*(topBound-1), topBound-1, -topTurn, 2), true)
	checkNotSolved(t, p, half, rw(100, 0, 1, -5001))
}

// kindOfThree names the sort of three rows by their determinant and what the
// text says of their solution.
func kindOfThree(p impl.Row, q impl.Row, r impl.Row) string {
	x, ok := solvedByText(p, q, r)
	whole := detByText(p, q, r)
	switch {
	case whole == 0:
		return "determinant 0"
	case !ok:
		return "no valid thrust"
	case x.Den > 1 && whole < 0:
		return "Den greater than 1, negative determinant"
	case x.Den > 1:
		return "Den greater than 1"
	case whole < 0:
		return "Den 1, negative determinant"
	}
	return "Den 1"
}

// All threes of ordinary rows, and of rows at the ends of the ranges.
func TestSolveRowsEveryThree(t *testing.T) {
	for _, rows := range [][]impl.Row{smallRows(), endRows()} {
		tried := map[string]int{}
		visitThrees(rows, func(p impl.Row, q impl.Row, r impl.Row) {
			checkDet(t, p, q, r, detByText(p, q, r))
			checkDet(t, r, q, p, -detByText(p, q, r))
			x, ok := solvedByText(p, q, r)
			checkSolved(t, p, q, r, x, ok)
			checkSolved(t, r, q, p, x, ok)
			tried[kindOfThree(p, q, r)]++
		})
		for _, kind := range []string{
			"determinant 0", "no valid thrust", "Den 1", "Den 1, negative determinant",
			"Den greater than 1", "Den greater than 1, negative determinant",
		} {
			if tried[kind] == 0 {
				t.Errorf("no three rows with %s were tried", kind)
			}
		}
	}
}

// Sums that are one less than D * Den, equal to it and one more.
func TestIsJustMet(t *testing.T) {
	cases := []struct {
		x      impl.Thrust
		r      impl.Row
		excess int
	}{
		{th(48, 96, 0, 1), rw(0, -4, 1, -383), -1},
		{th(48, 96, 0, 1), rw(0, -4, 1, -384), 0},
		{th(48, 96, 0, 1), rw(0, -4, 1, -385), 1},
		{th(48, 96, 0, 1), rw(0, -4, 1, 384), -768},
		{th(0, 0, 0, 1), rw(100, -100, 1, 1), -1},
		{th(0, 0, 0, 1), rw(100, -100, 1, 0), 0},
		{th(0, 0, 0, 1), rw(100, -100, 1, -1), 1},
		{th(48, 96, 5, 1), impl.Row{}, 0},
		{th(1, 0, 0, 1), lastRow(), -1},
		{th(0, 7, 3, 5), lastRow(), 0},
		{th(3, -5, -7, 1), rw(4, 2, 1, -4), -1},
		{th(3, -5, -7, 1), rw(4, 2, 1, -5), 0},
		{th(3, -5, -7, 1), rw(4, 2, 1, -6), 1},
		{th(3, 4, 0, 2), rw(1, 0, 0, 2), -1},
		{th(3, 4, 0, 2), rw(0, 1, 0, 2), 0},
		{th(3, 4, 0, 2), rw(1, 0, 0, 1), 1},
		{th(7, -3, 2, 997), rw(-1, -2, 0, 0), -1},
		{th(7, -3, 2, 997), rw(-1, -3, -1, 0), 0},
		{th(7, -3, 2, 997), rw(-1, -2, 1, 0), 1},
		{th(1, topTurn, 0, topDen), rw(-1, 100, 0, topBound), -1},
		{th(1, topTurn, 0, topDen), rw(0, 100, 0, topBound), 0},
		{th(1, topTurn, 0, topDen), rw(1, 100, 0, topBound), 1},
		{th(1, 0, -topTurn, topDen), rw(-1, 100, 1, -10000000), -1},
		{th(1, 0, -topTurn, topDen), rw(0, 100, 1, -10000000), 0},
		{th(1, 0, -topTurn, topDen), rw(1, 100, 1, -10000000), 1},
	}
	for _, c := range cases {
		if got := excessByText(c.x, c.r); got.Cmp(big.NewInt(int64(c.excess))) != 0 {
			t.Errorf("the excess of %v, %v is %v, want %d", c.x, c.r, got, c.excess)
		}
		checkMet(t, c.x, c.r, c.excess == 0)
	}
}

// Every valid thrust with rows that it just meets, or just does not.
func TestIsJustMetAroundEqual(t *testing.T) {
	kinds := map[int64]int{}
	for _, x := range validThrusts() {
		for _, a := range []int{-100, -7, 0, 1, 2, 100} {
			for _, b := range []int{-100, -2, -1, 0, 3, 100} {
				for c := -1; c <= 1; c++ {
					for _, r := range aroundEqual(x, a, b, c) {
						checkMet(t, x, r, isMetByText(x, r))
						if x.Den > 1 {
							kinds[excessByText(x, r).Int64()]++
						}
					}
				}
			}
		}
	}
	for excess := int64(-1); excess <= 1; excess++ {
		if kinds[excess] == 0 {
			t.Errorf("no sum that is %d greater than D * Den was tried", excess)
		}
	}
}

func TestIsJustMetEveryThrustAndRow(t *testing.T) {
	for _, x := range append(validThrusts(), invalidThrusts()...) {
		for _, r := range append(validRows(), invalidRows()...) {
			checkMet(t, x, r, isMetByText(x, r))
		}
	}
}

// The sum is D * Den for each of these, but the thrust or the row is not valid.
func TestIsJustMetInvalid(t *testing.T) {
	checkMet(t, th(1, 2, 0, 1), rw(2, -1, 1, 0), true)
	checkMet(t, th(2, 4, 0, 2), rw(2, -1, 1, 0), false)
	checkMet(t, th(-1, -2, 0, -1), rw(2, -1, 1, 0), false)
	checkMet(t, th(-1, -2, 0, 1), rw(2, -1, 1, 0), false)
	checkMet(t, th(0, 0, 0, 0), rw(2, -1, 1, 7), false)
	checkMet(t, th(1, 2, 0, 0), rw(2, -1, 1, 7), false)
	checkMet(t, th(1, 2, topTurn+1, 1), rw(2, -1, 0, 0), false)
	checkMet(t, th(topForce+1, 0, 0, 1), rw(0, 1, 1, 0), false)
	checkMet(t, th(1, 0, 0, topDen+1), rw(0, 1, 1, 0), false)
	for _, x := range invalidThrusts() {
		checkMet(t, x, impl.Row{}, false)
	}
	x := th(0, topBound+1, 0, 1)
	checkMet(t, x, rw(100, 0, 1, 0), true)
	checkMet(t, x, rw(-100, 0, -1, 0), true)
	checkMet(t, x, rw(101, 0, 1, 0), false)
	checkMet(t, x, rw(-101, 0, 1, 0), false)
	checkMet(t, x, rw(100, 0, 2, 0), false)
	checkMet(t, x, rw(100, 0, -2, 0), false)
	checkMet(t, x, rw(0, 1, 0, topBound+1), false)
	checkMet(t, x, rw(0, -1, 0, -topBound-1), false)
	checkMet(t, th(0, topBound, 0, 1), rw(0, 1, 0, topBound), true)
	checkMet(t, th(1, 0, 0, 1), rw(0, 100, 0, 0), true)
	checkMet(t, th(1, 0, 0, 1), rw(0, 101, 0, 0), false)
	checkMet(t, th(1, 0, 0, 1), rw(0, -101, 0, 0), false)
}

func TestJustMetBy(t *testing.T) {
	x := th(4, 3, 0, 1)
	met, less, more := rw(1, 1, 1, 7), rw(1, 1, 1, 8), rw(1, 1, 1, 6)
	beyond := []impl.Row{rw(0, 0, 2, 0), rw(0, 0, -2, 0), rw(101, 0, 0, 404), rw(0, -101, 0, -303), rw(0, 0, 0, topBound+1), rw(0, 0, 0, math.MinInt)}
	checkMetBy(t, x, nil)
	checkMetBy(t, x, []impl.Row{})
	checkMetBy(t, x, []impl.Row{met}, 0)
	checkMetBy(t, x, []impl.Row{less})
	checkMetBy(t, x, []impl.Row{less, more, less})
	checkMetBy(t, x, []impl.Row{met, less, more}, 0)
	checkMetBy(t, x, []impl.Row{less, met, more}, 1)
	checkMetBy(t, x, []impl.Row{less, more, met}, 2)
	checkMetBy(t, x, []impl.Row{met, rw(3, -4, 1, 0), {}, rw(-1, 0, 0, -4)}, 0, 1, 2, 3)
	// Equal rows, with each index, and a row turned around.
	checkMetBy(t, x, []impl.Row{met, less, met, met, rw(-1, -1, -1, -7)}, 0, 2, 3, 4)
	checkMetBy(t, x, box(), 1, 3, 4)
	checkMetBy(t, th(1, 1, 1, 1), box())
	checkMetBy(t, th(2, 2, 2, 1), tent(), 0, 1, 2, 3)
	// Rows that are not valid are left out, and those after them count on.
	checkMetBy(t, x, beyond)
	checkMetBy(t, x, slices.Concat([]impl.Row{met}, beyond, []impl.Row{met}), 0, 7)
	for _, r := range append(beyond, invalidRows()...) {
		checkMetBy(t, x, []impl.Row{r})
		checkMetBy(t, x, []impl.Row{r, met, r, r, met, less, r}, 1, 4)
	}
}

func TestJustMetByManyRows(t *testing.T) {
	x := th(9, 8, 6, 2)
	met, less := rw(2, 0, 1, 12), rw(2, 0, 1, 13)
	for _, n := range []int{1, 19, 20, 21, 39, 40, 41, 42, 90} {
		var every []int
		for i := range n {
			every = append(every, i)
		}
		checkMetBy(t, x, slices.Repeat([]impl.Row{met}, n), every...)
		checkMetBy(t, x, slices.Repeat([]impl.Row{less}, n))
		for at := range n {
			checkMetBy(t, x, manyRows(less, n, at, met), at)
			checkMetBy(t, x, manyRows(met, n, at, less), slices.Delete(slices.Clone(every), at, at+1)...)
			checkMetBy(t, x, manyRows(met, n, at, rw(0, 0, 2, 6)), slices.Delete(slices.Clone(every), at, at+1)...)
		}
	}
	all := append(validRows(), invalidRows()...)
	for _, x := range append(validThrusts(), invalidThrusts()...) {
		checkMetBy(t, x, all, metByText(x, all)...)
	}
}

func TestJustMetByInvalidThrusts(t *testing.T) {
	rows := []impl.Row{{}, lastRow(), rw(0, 1, 0, 0), rw(0, 0, 1, 0), {}}
	checkMetBy(t, th(1, 0, 0, 1), rows, 0, 2, 3, 4)
	checkMetBy(t, th(2, 0, 0, 2), rows)
	checkMetBy(t, th(-1, 0, 0, 1), rows)
	checkMetBy(t, th(1, 0, 0, 0), rows)
	for _, x := range invalidThrusts() {
		checkMetBy(t, x, rows)
		checkMetBy(t, x, nil)
		checkMetBy(t, x, slices.Repeat(rows, 9))
	}
}

func TestCornersOf(t *testing.T) {
	p, q, r := rw(1, 0, 0, 3), rw(0, 1, 0, 4), rw(0, 0, 1, 5)
	only := th(3, 4, 5, 1)
	cases := []struct {
		name string
		rows []impl.Row
		want []impl.Thrust
	}{
		{"three rows", []impl.Row{p, q, r}, []impl.Thrust{only}},
		{"three rows, another order", []impl.Row{r, p, q}, []impl.Thrust{only}},
		{"three rows with Den 2", []impl.Row{rw(2, 0, 0, 3), q, r}, []impl.Thrust{th(3, 8, 10, 2)}},
		{"box", box(), boxCorners()},
		{"tent", tent(), []impl.Thrust{th(2, 2, 2, 1), th(4, 4, 0, 1), th(4, 0, 0, 1), th(0, 4, 0, 1), th(0, 0, 0, 1)}},
		{"tent with an equal row", append(tent(), tent()[2]), []impl.Thrust{th(2, 2, 2, 1), th(4, 4, 0, 1), th(4, 0, 0, 1), th(0, 4, 0, 1), th(0, 0, 0, 1)}},
		// No corner: two determinants 0, no valid thrust, or nothing that fulfills all.
		{"two equal rows", []impl.Row{p, q, q}, nil},
		{"three equal rows", []impl.Row{p, p, p}, nil},
		{"rows of one direction", []impl.Row{p, rw(1, 0, 0, 2), rw(2, 0, 0, 5), rw(-1, 0, 0, 0)}, nil},
		{"rows of two directions", []impl.Row{p, lastRow(), q, rw(0, -1, 0, 0), rw(1, 1, 0, 6)}, nil},
		{"H negative", []impl.Row{rw(1, 0, 0, -3), q, r}, nil},
		{"H negative, more rows", []impl.Row{rw(-1, 0, 0, 4), rw(1, 0, 0, -1), q, rw(0, -1, 0, 0), r, rw(0, 0, -1, 0)}, nil},
		{"a contradiction", append(box(), rw(-1, 0, 0, -5)), nil},
		{"a contradiction of all", append(box(), rw(-1, -1, -1, -10)), nil},
		{"a row that nothing fulfills", append(box(), rw(0, 0, 0, -1)), nil},
		// A row that is none of the three is just met by a corner, or nearly broken.
		{"one point", append(box(), rw(-1, -1, -1, -9)), []impl.Thrust{th(4, 3, 2, 1)}},
		{"a row that all fulfill", append(box(), rw(0, 0, 0, 0), rw(1, 1, 1, 9)), boxCorners()},
		{"only corners with H not negative", append(box()[1:], rw(-1, 0, 0, 1)), boxCorners()[4:]},
	}
	for _, c := range cases {
		t.Run(c.name, func(t *testing.T) {
			checkCorners(t, c.rows, c.want...)
			checkCorners(t, c.rows, cornersByText(c.rows)...)
		})
	}
}

// The order is that of the indices of the rows, not that of the numbers.
func TestCornersOfOrder(t *testing.T) {
	rows, corners := box(), boxCorners()
	checkCorners(t, rows, corners...)
	// With the rows of M before all others, M changes last.
	checkCorners(t, slices.Concat(rows[4:], rows[:4]),
		th(0, 0, 0, 1), th(0, 3, 0, 1), th(4, 0, 0, 1), th(4, 3, 0, 1),
		th(0, 0, 2, 1), th(0, 3, 2, 1), th(4, 0, 2, 1), th(4, 3, 2, 1))
	slices.Reverse(rows)
	checkCorners(t, rows,
		th(4, 3, 2, 1), th(0, 3, 2, 1), th(4, 0, 2, 1), th(0, 0, 2, 1),
		th(4, 3, 0, 1), th(0, 3, 0, 1), th(4, 0, 0, 1), th(0, 0, 0, 1))
	// The point of the tent is the solution of four threes: it comes where the
	// first one of them comes, and once.
	tip := th(2, 2, 2, 1)
	checkCorners(t, tent(), tip, th(4, 4, 0, 1), th(4, 0, 0, 1), th(0, 4, 0, 1), th(0, 0, 0, 1))
	ground := append(tent()[4:], tent()[:4]...)
	checkCorners(t, ground, th(4, 4, 0, 1), th(4, 0, 0, 1), th(0, 4, 0, 1), th(0, 0, 0, 1), tip)
	between := tent()
	between[1], between[4] = between[4], between[1]
	checkCorners(t, between, th(4, 4, 0, 1), th(4, 0, 0, 1), tip, th(0, 4, 0, 1), th(0, 0, 0, 1))
}

// A row is put before, between and behind the rows of the box: it breaks one
// corner and adds three others.
func TestCornersOfWithOneMoreRow(t *testing.T) {
	broken, all := th(4, 3, 2, 1), boxCorners()
	for at := range len(box()) + 1 {
		cut := slices.Insert(box(), at, rw(1, 1, 1, 8))
		got := impl.CornersOf(cut)
		for _, x := range append(all[:7:7], th(3, 3, 2, 1), th(4, 2, 2, 1), th(4, 3, 1, 1)) {
			if !slices.Contains(got, x) {
				t.Errorf("CornersOf(%v) = %v has no %v", cut, got, x)
			}
		}
		if len(got) != 10 || slices.Contains(got, broken) {
			t.Errorf("CornersOf(%v) = %v, want ten corners without %v", cut, got, broken)
		}
		checkCorners(t, cut, cornersByText(cut)...)
		// This one touches no corner, and this one takes all.
		checkCorners(t, slices.Insert(box(), at, rw(1, 1, 1, 10)), all...)
		checkCorners(t, slices.Insert(box(), at, rw(1, 1, 1, -1)))
	}
}

// The one solution of four rows breaks the fourth one, or does not.
func TestCornersOfFourRows(t *testing.T) {
	for at := range 4 {
		three := []impl.Row{rw(1, 0, 0, 4), rw(0, 1, 0, 3), rw(0, 0, 1, 2)}
		checkCorners(t, slices.Insert(three, at, rw(0, 0, 0, -1)))
		checkCorners(t, slices.Insert(three, at, rw(0, 0, 0, 0)), th(4, 3, 2, 1))
	}
}

func TestCornersOfCount(t *testing.T) {
	p, q, r := rw(1, 0, 0, 3), rw(0, 1, 0, 4), rw(0, 0, 1, 5)
	checkCorners(t, nil)
	checkCorners(t, []impl.Row{})
	checkCorners(t, []impl.Row{p})
	checkCorners(t, []impl.Row{p, q})
	checkCorners(t, []impl.Row{p, q, r}, th(3, 4, 5, 1))
	for n := 3; n <= 45; n++ {
		// Equal rows, which give no new corner, and others that all corners fulfill.
		equal := slices.Concat([]impl.Row{p, q, r}, slices.Repeat([]impl.Row{r}, n-3))
		loose := slices.Concat(slices.Repeat([]impl.Row{{}}, n-3), []impl.Row{p, q, r})
		if n <= 20 {
			checkCorners(t, equal, th(3, 4, 5, 1))
			checkCorners(t, loose, th(3, 4, 5, 1))
		} else {
			checkCorners(t, equal)
			checkCorners(t, loose)
		}
	}
	twenty := append(box(), slices.Repeat(box()[2:4], 7)...)
	checkCorners(t, twenty, boxCorners()...)
	checkCorners(t, append(twenty, impl.Row{}))
	checkCorners(t, append(twenty, rw(1, 0, 0, 3)))
}

// One row that is not valid is the first one, the last one or in between. The
// corners would fulfill it if it were valid.
func TestCornersOfInvalidRows(t *testing.T) {
	loose := []impl.Row{rw(-101, 0, 0, 0), rw(0, -101, 0, 0), rw(0, 0, -2, 0), rw(0, 0, 0, topBound+1), rw(0, 0, 0, math.MaxInt)}
	for _, bad := range append(loose, invalidRows()...) {
		for at := range len(box()) + 1 {
			checkCorners(t, slices.Insert(box(), at, bad))
		}
		for at := range 3 {
			three := []impl.Row{rw(1, 0, 0, 3), rw(0, 1, 0, 4), rw(0, 0, 1, 5)}
			checkCorners(t, slices.Insert(three, at, bad))
			three[at] = bad
			checkCorners(t, three)
		}
		checkCorners(t, slices.Concat(box(), make([]impl.Row, 13), []impl.Row{bad}))
	}
	checkCorners(t, slices.Concat(box(), make([]impl.Row, 14)), boxCorners()...)
}

// Parts of ordinary rows and of rows at the ends of the ranges.
func TestCornersOfEveryPart(t *testing.T) {
	for _, rows := range [][]impl.Row{smallRows(), endRows(), validRows()} {
		found := 0
		for n := 2; n <= 8; n++ {
			for from := 0; from+n <= len(rows); from++ {
				part := rows[from : from+n]
				want := cornersByText(part)
				checkCorners(t, part, want...)
				found += len(want)
			}
		}
		if found == 0 {
			t.Error("no rows with a corner were tried")
		}
	}
}

// ruledArches are arches that stand and ones that fall, each with some loads.
func ruledArches(visit func(a impl.Arch, loads []impl.Load, rows []impl.Row)) {
	for _, a := range append(validArches(), fallingFeet(), twoTowers()) {
		n := len(a.Joints) - 1
		for _, loads := range [][]impl.Load{nil, {ld(n/2, 20, a.Joints[n/2].Outer.X)}, {ld(n-1, 77, 3), ld(n/2, 10000, 60), ld(0, 1, -60)}} {
			visit(a, loads, impl.RowsOf(a, loads))
		}
	}
}

// Promise 11.
func TestCornersFulfillAllRows(t *testing.T) {
	standing, falling := 0, 0
	ruledArches(func(a impl.Arch, loads []impl.Load, rows []impl.Row) {
		corners := impl.CornersOf(rows)
		for _, x := range corners {
			if !impl.ThrustOk(x) || !impl.FulfillsAll(x, rows) || impl.CountBroken(x, rows) != 0 || !fulfillsAllByText(x, rows) {
				t.Errorf("the corner %v of %v with %v breaks one of %v", x, a, loads, rows)
			}
			met := impl.JustMetBy(x, rows)
			if len(met) < 3 || !slices.Equal(met, metByText(x, rows)) {
				t.Errorf("the corner %v of %v with %v just meets %v of %v", x, a, loads, met, rows)
			}
			for k := range a.Joints {
				if !impl.IsInside(a, loads, x, k) {
					t.Errorf("the corner %v of %v with %v does not pass joint %d", x, a, loads, k)
				}
			}
		}
		checkCorners(t, rows, cornersByText(rows)...)
		if len(corners) > 0 {
			standing++
		} else {
			falling++
		}
	})
	if standing == 0 || falling == 0 {
		t.Errorf("%d arches with corners and %d without them were tried", standing, falling)
	}
}

// Promise 11, for any three rows of arches.
func TestThreeRowsAreJustMetByTheirSolution(t *testing.T) {
	kept, broken := 0, 0
	ruledArches(func(a impl.Arch, loads []impl.Load, rows []impl.Row) {
		corners := impl.CornersOf(rows)
		visitThrees(rows, func(p impl.Row, q impl.Row, r impl.Row) {
			x, ok := solvedByText(p, q, r)
			checkSolved(t, p, q, r, x, ok)
			if !ok {
				return
			}
			checkMetBy(t, x, []impl.Row{p, q, r}, 0, 1, 2)
			if impl.DetOfRows(p, q, r) == 0 || !impl.ThrustOk(x) {
				t.Errorf("SolveRows(%v, %v, %v) = %v", p, q, r, x)
			}
			if impl.FulfillsAll(x, rows) != slices.Contains(corners, x) {
				t.Errorf("the solution %v of %v, %v, %v, and the corners %v of %v", x, p, q, r, corners, rows)
			}
			if slices.Contains(corners, x) {
				kept++
			} else {
				broken++
			}
		})
	})
	if kept == 0 || broken == 0 {
		t.Errorf("%d solutions that are corners and %d others were tried", kept, broken)
	}
}

// Corners of two stones by hand: each one passes Outer of the middle joint, and
// Inner or Outer of both abutments, but not Outer of both.
func TestCornersOfTwoStones(t *testing.T) {
	rows := impl.RowsOf(upright(3, 0, 4), nil)
	checkCorners(t, rows, th(48, 96, 0, 1), th(96, 144, 0, 1), th(96, 48, -384, 1))
	checkMetBy(t, th(48, 96, 0, 1), rows, 0, 3, 4)
	checkMetBy(t, th(96, 144, 0, 1), rows, 0, 3, 5)
	checkMetBy(t, th(96, 48, -384, 1), rows, 1, 3, 4)
	checkMetBy(t, th(100, 96, -100, 1), rows)
	// The load on the second stone moves the least thrust.
	loaded := impl.RowsOf(upright(3, 0, 4), []impl.Load{ld(1, 10, 5)})
	checkMetBy(t, th(48, 96, 0, 1), loaded, 0, 3)
}

// compareNumbers puts thrusts in the order of their numbers.
func compareNumbers(a impl.Thrust, b impl.Thrust) int {
	return slices.Compare([]int{a.H, a.V, a.M, a.Den}, []int{b.H, b.V, b.M, b.Den})
}

// The corners of an arch are the same ones in whatever order its rows are.
func TestCornersOfRowsInAnotherOrder(t *testing.T) {
	ruledArches(func(a impl.Arch, loads []impl.Load, rows []impl.Row) {
		want := impl.CornersOf(rows)
		slices.SortFunc(want, compareNumbers)
		for range len(rows) {
			rows = append(rows[1:], rows[0])
			got := impl.CornersOf(rows)
			slices.SortFunc(got, compareNumbers)
			if !slices.Equal(got, want) {
				t.Fatalf("the corners of %v are %v, and in another order %v", rows, got, want)
			}
		}
	})
}

func TestCornersShareNoMemory(t *testing.T) {
	rows := box()
	first, second := impl.CornersOf(rows), impl.CornersOf(rows)
	for i := range first[:cap(first)] {
		first[:cap(first)][i] = th(9, 9, 9, 9)
	}
	x := th(4, 3, 0, 1)
	met, again := impl.JustMetBy(x, rows), impl.JustMetBy(x, rows)
	for i := range met[:cap(met)] {
		met[:cap(met)][i] = 9
	}
	if !slices.Equal(rows, box()) {
		t.Errorf("a change of a result changed the rows to %v", rows)
	}
	checkCorners(t, rows, boxCorners()...)
	checkMetBy(t, x, rows, 1, 3, 4)
	spoilRows(rows)
	if !slices.Equal(second, boxCorners()) || !slices.Equal(again, []int{1, 3, 4}) {
		t.Errorf("the results became %v and %v", second, again)
	}
}

func TestThreeRowsArgumentsUnchanged(t *testing.T) {
	for _, all := range [][]impl.Row{append(box(), tent()...), append(validRows(), invalidRows()...)} {
		before := slices.Clone(all)
		for _, n := range []int{0, 1, 2, 3, 6, 11, 20, 21} {
			// What is behind the first rows is spare capacity.
			part := all[:min(n, len(all))]
			impl.CornersOf(part)
			for _, x := range append(validThrusts(), invalidThrusts()...) {
				impl.JustMetBy(x, part)
			}
		}
		if !slices.Equal(all, before) {
			t.Errorf("the rows %v became %v", before, all)
		}
	}
}
