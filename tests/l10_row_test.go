package tests

import (
	"math"
	"math/big"
	"slices"
	"testing"

	"loop.example/g03301/impl"
)

// The limits that the document gives in Chapter 10.
const (
	topLever = 100
	topBound = 1000000000
)

func rw(a int, b int, c int, d int) impl.Row {
	return impl.Row{A: a, B: b, C: c, D: d}
}

// lastRow is what the document puts after the rows of the joints.
func lastRow() impl.Row {
	return rw(-1, 0, 0, 0)
}

// validRows are ordinary rows, and ones at the ends of the ranges.
func validRows() []impl.Row {
	list := []impl.Row{
		{}, lastRow(), rw(1, 0, 0, 0), rw(0, 1, 0, 0), rw(0, 0, 1, 0), rw(0, 0, 0, 1), rw(0, -1, 0, 0), rw(0, 0, -1, 0), rw(0, 0, 0, -1),
		rw(0, -4, 1, -192), rw(-4, 4, -1, 192), rw(3, -5, 1, 7), rw(-60, 60, -1, 79776000), rw(60, -60, 1, -79776000), rw(7, 7, 0, 7),
	}
	for _, d := range []int{-topBound, -topBound + 1, -1, 0, 1, topBound - 1, topBound} {
		for _, c := range []int{-1, 0, 1} {
			for _, a := range []int{-topLever, 0, topLever} {
				list = append(list, rw(a, topLever, c, d), rw(a, -topLever, c, d), rw(a, 1-topLever, c, d))
			}
		}
	}
	return list
}

// invalidRows are out of range by one number, or by all four of them.
func invalidRows() []impl.Row {
	list := []impl.Row{
		rw(topLever+1, 0, 0, 0), rw(-topLever-1, 0, 0, 0), rw(0, topLever+1, 0, 0), rw(0, -topLever-1, 0, 0),
		rw(0, 0, 2, 0), rw(0, 0, -2, 0), rw(0, 0, topLever, 0), rw(0, 0, 0, topBound+1), rw(0, 0, 0, -topBound-1),
		rw(topLever+1, topLever, 1, topBound), rw(topLever, topLever+1, 1, topBound), rw(topLever, topLever, 2, topBound),
		rw(topLever, topLever, 1, topBound+1), rw(-topLever, -topLever, -1, -topBound-1), rw(-topLever, -topLever, -2, -topBound),
		rw(-topLever, -topLever-1, -1, -topBound), rw(-topLever-1, -topLever, -1, -topBound), rw(topBound, 0, 0, 0), rw(0, -topBound, 0, 0),
	}
	for _, n := range append(edgeInts(), 1<<32, -1<<32, 1<<61) {
		list = append(list, rw(n, 0, 0, 0), rw(0, n, 0, 0), rw(0, 0, n, 0), rw(0, 0, 0, n), rw(n, n, n, n))
	}
	return list
}

// isRowByText follows the sentence of the document.
func isRowByText(r impl.Row) bool {
	if r.A < -100 || r.A > 100 || r.B < -100 || r.B > 100 {
		return false
	}
	return (r.C == -1 || r.C == 0 || r.C == 1) && -1000000000 <= r.D && r.D <= 1000000000
}

// excessByText is A * H + B * V + C * M minus D * Den.
func excessByText(x impl.Thrust, r impl.Row) *big.Int {
	product := func(n int, m int) *big.Int {
		return new(big.Int).Mul(big.NewInt(int64(n)), big.NewInt(int64(m)))
	}
	sum := product(r.A, x.H)
	sum.Add(sum, product(r.B, x.V))
	sum.Add(sum, product(r.C, x.M))
	return sum.Sub(sum, product(r.D, x.Den))
}

// fulfillsByText follows the sentence of the document.
func fulfillsByText(x impl.Thrust, r impl.Row) bool {
	return isThrustByText(x) && isRowByText(r) && excessByText(x, r).Sign() <= 0
}

// fulfillsAllByText follows the sentence of the document.
func fulfillsAllByText(x impl.Thrust, rows []impl.Row) bool {
	for _, r := range rows {
		if !fulfillsByText(x, r) {
			return false
		}
	}
	return len(rows) >= 1 && len(rows) <= 40
}

// brokenByText follows the sentence of the document.
func brokenByText(x impl.Thrust, rows []impl.Row) int {
	if !isThrustByText(x) {
		return -1
	}
	count := 0
	for _, r := range rows {
		if isRowByText(r) && !fulfillsByText(x, r) {
			count++
		}
	}
	return count
}

// rowsByText follows the sentence of the document for valid arguments.
func rowsByText(a impl.Arch, loads []impl.Load) []impl.Row {
	var rows []impl.Row
	for k, j := range a.Joints {
		weight, moment := 0, 0
		for _, part := range partsLeft(a, loads, k) {
			weight += part.weight
			moment += part.moment
		}
		rows = append(rows, rw(j.Inner.Y, -j.Inner.X, 1, moment-j.Inner.X*weight))
		rows = append(rows, rw(-j.Outer.Y, j.Outer.X, -1, j.Outer.X*weight-moment))
	}
	return append(rows, lastRow())
}

// checkFulfilled tests Fulfills, and the other functions with the one row.
func checkFulfilled(t *testing.T, x impl.Thrust, r impl.Row, want bool) {
	t.Helper()
	if got := impl.Fulfills(x, r); got != want {
		t.Fatalf("Fulfills(%v, %v) = %v, want %v", x, r, got, want)
	}
	if got := impl.FulfillsAll(x, []impl.Row{r}); got != want {
		t.Fatalf("FulfillsAll(%v, %v) of one row = %v, want %v", x, r, got, want)
	}
	if got, want := impl.CountBroken(x, []impl.Row{r}), brokenByText(x, []impl.Row{r}); got != want {
		t.Fatalf("CountBroken(%v, %v) of one row = %d, want %d", x, r, got, want)
	}
}

func checkFulfillsAll(t *testing.T, x impl.Thrust, rows []impl.Row, want bool) {
	t.Helper()
	if got := impl.FulfillsAll(x, rows); got != want {
		t.Errorf("FulfillsAll(%v, %v) = %v, want %v", x, rows, got, want)
	}
}

func checkBroken(t *testing.T, x impl.Thrust, rows []impl.Row, want int) {
	t.Helper()
	if got := impl.CountBroken(x, rows); got != want {
		t.Errorf("CountBroken(%v, %v) = %d, want %d", x, rows, got, want)
	}
}

func TestRowOk(t *testing.T) {
	for _, r := range validRows() {
		if !impl.RowOk(r) {
			t.Errorf("RowOk(%v) is false", r)
		}
	}
	for _, r := range invalidRows() {
		if impl.RowOk(r) {
			t.Errorf("RowOk(%v) is true", r)
		}
	}
}

// Each number alone at both ends of its range and beyond, beside zeros and
// beside the greatest and the least numbers.
func TestRowOkEnds(t *testing.T) {
	others := []impl.Row{{}, rw(100, 100, 1, 1000000000), rw(-100, -100, -1, -1000000000)}
	for i, most := range []int{100, 100, 1, 1000000000} {
		for _, n := range []int{math.MinInt, -most - 1, -most, most, most + 1, math.MaxInt} {
			for _, r := range others {
				*[]*int{&r.A, &r.B, &r.C, &r.D}[i] = n
				if got, want := impl.RowOk(r), n == most || n == -most; got != want {
					t.Errorf("RowOk(%v) = %v, want %v", r, got, want)
				}
			}
		}
	}
}

func TestRowOkEveryRow(t *testing.T) {
	levers := []int{math.MinInt, -1000, -101, -100, -99, -1, 0, 1, 99, 100, 101, 1000, math.MaxInt}
	signs := []int{math.MinInt, -100, -2, -1, 0, 1, 2, 100, math.MaxInt}
	bounds := []int{math.MinInt, -topBound - 1, -topBound, -topBound + 1, -1, 0, 1, topBound - 1, topBound, topBound + 1, math.MaxInt}
	for _, a := range levers {
		for _, b := range levers {
			for _, c := range signs {
				for _, d := range bounds {
					r := rw(a, b, c, d)
					if got, want := impl.RowOk(r), isRowByText(r); got != want {
						t.Fatalf("RowOk(%v) = %v, want %v", r, got, want)
					}
				}
			}
		}
	}
}

// Sums that are less than D * Den, equal to it and greater, mostly by one.
func TestFulfills(t *testing.T) {
	cases := []struct {
		name   string
		x      impl.Thrust
		r      impl.Row
		excess int
	}{
		{"one less", th(48, 96, 0, 1), rw(0, -4, 1, -383), -1},
		{"equal", th(48, 96, 0, 1), rw(0, -4, 1, -384), 0},
		{"one more", th(48, 96, 0, 1), rw(0, -4, 1, -385), 1},
		{"zero row", th(48, 96, 5, 1), impl.Row{}, 0},
		{"only D 1", th(48, 96, 5, 1), rw(0, 0, 0, 1), -1},
		{"only D -1", th(48, 96, 5, 1), rw(0, 0, 0, -1), 1},
		{"zeros, D 1", th(0, 0, 0, 1), rw(100, 100, 1, 1), -1},
		{"zeros, D 0", th(0, 0, 0, 1), rw(100, 100, 1, 0), 0},
		{"zeros, D -1", th(0, 0, 0, 1), rw(-100, -100, -1, -1), 1},
		{"H alone", th(1, 0, 0, 1), rw(1, 0, 0, 0), 1},
		{"H alone, the other way", th(1, 0, 0, 1), rw(-1, 0, 0, 0), -1},
		{"V alone", th(0, 1, 0, 1), rw(0, 1, 0, 0), 1},
		{"V alone, the other way", th(0, 1, 0, 1), rw(0, -1, 0, 0), -1},
		{"M alone", th(0, 0, 1, 1), rw(0, 0, 1, 0), 1},
		{"M alone, the other way", th(0, 0, 1, 1), rw(0, 0, -1, 0), -1},
		// Negative numbers in the thrust, or in the row, or in both.
		{"negative V and M, one less", th(3, -5, -7, 1), rw(4, 2, 1, -4), -1},
		{"negative V and M, equal", th(3, -5, -7, 1), rw(4, 2, 1, -5), 0},
		{"negative V and M, one more", th(3, -5, -7, 1), rw(4, 2, 1, -6), 1},
		{"all negative, one less", th(3, -5, -7, 1), rw(-4, -2, -1, 6), -1},
		{"all negative, equal", th(3, -5, -7, 1), rw(-4, -2, -1, 5), 0},
		{"all negative, one more", th(3, -5, -7, 1), rw(-4, -2, -1, 4), 1},
		// Den times D.
		{"Den 2, one less", th(3, 4, 0, 2), rw(1, 0, 0, 2), -1},
		{"Den 2, equal", th(3, 4, 0, 2), rw(0, 1, 0, 2), 0},
		{"Den 2, one more", th(3, 4, 0, 2), rw(1, 0, 0, 1), 1},
		{"Den 2, negative D, one less", th(3, -5, -7, 2), rw(-1, -1, 1, -2), -1},
		{"Den 2, negative D, equal", th(3, -5, -7, 2), rw(1, 1, 0, -1), 0},
		{"Den 2, negative D, one more", th(3, -5, -7, 2), rw(-1, -1, 1, -3), 1},
		{"Den 997, one less", th(7, -3, 2, 997), rw(-1, -2, 0, 0), -1},
		{"Den 997, equal", th(7, -3, 2, 997), rw(-1, -3, -1, 0), 0},
		{"Den 997, one more", th(7, -3, 2, 997), rw(-1, -2, 1, 0), 1},
		{"the greatest Den, one less", th(topDen, 1, 0, topDen), rw(1, -1, 0, 1), -1},
		{"the greatest Den, equal", th(topDen, 1, 0, topDen), rw(1, 0, 0, 1), 0},
		{"the greatest Den, one more", th(topDen, 1, 0, topDen), rw(1, 1, 0, 1), 1},
		// The ends of all ranges.
		{"D at its greatest, one less", th(1, topTurn, 0, topDen), rw(-1, 100, 0, topBound), -1},
		{"D at its greatest, equal", th(1, topTurn, 0, topDen), rw(0, 100, 0, topBound), 0},
		{"D at its greatest, one more", th(1, topTurn, 0, topDen), rw(1, 100, 0, topBound), 1},
		{"D at its least, one less", th(1, -topTurn, 0, topDen), rw(-1, 100, 0, -topBound), -1},
		{"D at its least, equal", th(1, -topTurn, 0, topDen), rw(0, 100, 0, -topBound), 0},
		{"D at its least, one more", th(1, topTurn, 0, topDen), rw(1, -100, 0, -topBound), 1},
		{"M at its greatest, one less", th(1, 0, topTurn, topDen), rw(-1, 100, 1, 10000000), -1},
		{"M at its greatest, equal", th(1, 0, topTurn, topDen), rw(0, 100, 1, 10000000), 0},
		{"M at its least, one more", th(1, 0, -topTurn, topDen), rw(1, 100, 1, -10000000), 1},
		{"H at its greatest, one less", th(topForce, 1, 0, topDen), rw(100, -1, 0, 100*topDen), -1},
		{"H at its greatest, equal", th(topForce, 1, 0, topDen), rw(100, 0, 0, 100*topDen), 0},
		{"H at its greatest, one more", th(topForce, 1, 0, topDen), rw(100, 1, 0, 100*topDen), 1},
		{"the greatest sum", th(topForce, topTurn, -topTurn, 1), rw(100, 100, -1, -topBound), 1110001000000000},
		{"the greatest sum, Den 999999", th(topForce, topTurn, topTurn, 999999), rw(100, 100, 1, -topBound), 2109999000000000},
		{"the least sum", th(topForce, topTurn, -topTurn, 1), rw(-100, -100, 1, topBound), -1110001000000000},
		{"the least sum, Den 999999", th(topForce, topTurn, topTurn, 999999), rw(-100, -100, -1, topBound), -2109999000000000},
	}
	for _, c := range cases {
		t.Run(c.name, func(t *testing.T) {
			if !impl.ThrustOk(c.x) || !impl.RowOk(c.r) {
				t.Fatalf("%v or %v is not valid", c.x, c.r)
			}
			if got := excessByText(c.x, c.r); got.Cmp(big.NewInt(int64(c.excess))) != 0 {
				t.Fatalf("the excess is %v, want %d", got, c.excess)
			}
			checkFulfilled(t, c.x, c.r, c.excess <= 0)
		})
	}
}

// aroundEqual are rows with these A, B and C whose D is around the one with
// which x would just fulfill them.
func aroundEqual(x impl.Thrust, a int, b int, c int) []impl.Row {
	sum := a*x.H + b*x.V + c*x.M
	var rows []impl.Row
	for d := sum/x.Den - 2; d <= sum/x.Den+2; d++ {
		if r := rw(a, b, c, d); isRowByText(r) {
			rows = append(rows, r)
		}
	}
	return rows
}

// Every valid thrust with rows that it just fulfills, or just does not.
func TestFulfillsAroundEqual(t *testing.T) {
	kinds := map[int64]int{}
	for _, x := range validThrusts() {
		for _, a := range []int{-100, -60, -7, -1, 0, 1, 2, 5, 100} {
			for _, b := range []int{-100, -13, -2, -1, 0, 1, 3, 60, 100} {
				for c := -1; c <= 1; c++ {
					for _, r := range aroundEqual(x, a, b, c) {
						checkFulfilled(t, x, r, fulfillsByText(x, r))
						if x.Den > 1 {
							kinds[excessByText(x, r).Int64()]++
						}
					}
				}
			}
		}
	}
	for excess := int64(-1); excess <= 1; excess++ {
		if kinds[excess] == 0 {
			t.Errorf("no sum that is %d greater than D * Den was tried", excess)
		}
	}
}

func TestFulfillsEveryThrustAndRow(t *testing.T) {
	for _, x := range append(validThrusts(), invalidThrusts()...) {
		for _, r := range append(validRows(), invalidRows()...) {
			checkFulfilled(t, x, r, fulfillsByText(x, r))
		}
	}
}

// A thrust that is not valid fulfills not even the rows that all others fulfill.
func TestFulfillsInvalidThrusts(t *testing.T) {
	rows := []impl.Row{{}, lastRow(), rw(0, 0, 0, 1), rw(0, 0, 0, topBound), rw(-1, 0, 0, topBound)}
	for _, r := range rows {
		checkFulfilled(t, th(1, 2, 0, 1), r, true)
		checkFulfilled(t, th(2, 4, 0, 2), r, false)
		checkFulfilled(t, th(3, 0, -6, 3), r, false)
		for _, x := range validThrusts() {
			checkFulfilled(t, x, r, r.D >= 0)
		}
		for _, x := range invalidThrusts() {
			checkFulfilled(t, x, r, false)
			checkFulfillsAll(t, x, rows, false)
			checkBroken(t, x, rows, -1)
		}
	}
}

// A row that is not valid is not fulfilled, where its sum would be small enough
// as well.
func TestFulfillsInvalidRows(t *testing.T) {
	for _, r := range invalidRows() {
		for _, x := range validThrusts() {
			checkFulfilled(t, x, r, false)
			checkBroken(t, x, []impl.Row{r}, 0)
		}
	}
	// One beyond the range, and the end of it.
	checkFulfilled(t, th(1, 0, 0, 1), rw(-100, 0, 0, 0), true)
	checkFulfilled(t, th(1, 0, 0, 1), rw(-101, 0, 0, 0), false)
	checkFulfilled(t, th(0, -1, 0, 1), rw(0, 100, 0, 0), true)
	checkFulfilled(t, th(0, -1, 0, 1), rw(0, 101, 0, 0), false)
	checkFulfilled(t, th(0, 0, -1, 1), rw(0, 0, 1, 0), true)
	checkFulfilled(t, th(0, 0, -1, 1), rw(0, 0, 2, 0), false)
	checkFulfilled(t, th(0, 0, 1, 1), rw(0, 0, -2, 0), false)
	checkFulfilled(t, th(1, 1, 1, 1), rw(1, 1, 1, topBound), true)
	checkFulfilled(t, th(1, 1, 1, 1), rw(1, 1, 1, topBound+1), false)
}

func TestRowsOf(t *testing.T) {
	two, sample, seven := upright(3, 0, 4), archCases()[4].a, upright(8, -20, 5)
	four := []impl.Load{ld(2, 3, 14), ld(0, 20, 1), ld(1, 100, 8), ld(0, 2, -1)}
	cases := []struct {
		name  string
		a     impl.Arch
		loads []impl.Load
		want  []impl.Row
	}{
		{"two stones", two, nil, []impl.Row{
			rw(0, 0, 1, 0), rw(-4, 0, -1, 0), rw(0, -4, 1, -192), rw(-4, 4, -1, 192), rw(0, -8, 1, -768), rw(-4, 8, -1, 768), lastRow(),
		}},
		{"two stones, a load to the left", two, []impl.Load{ld(0, 10, 1)}, []impl.Row{
			rw(0, 0, 1, 0), rw(-4, 0, -1, 0), rw(0, -4, 1, -222), rw(-4, 4, -1, 222), rw(0, -8, 1, -838), rw(-4, 8, -1, 838), lastRow(),
		}},
		{"two stones, a load to the right", two, []impl.Load{ld(1, 10, 5)}, []impl.Row{
			rw(0, 0, 1, 0), rw(-4, 0, -1, 0), rw(0, -4, 1, -192), rw(-4, 4, -1, 192), rw(0, -8, 1, -798), rw(-4, 8, -1, 798), lastRow(),
		}},
		{"three stones", sample, nil, []impl.Row{
			rw(0, 0, 1, 0), rw(-3, -2, -1, 0), rw(2, -5, 1, -444), rw(-6, 4, -1, 306),
			rw(2, -11, 1, -1776), rw(-6, 12, -1, 2082), rw(0, -16, 1, -3552), rw(-3, 18, -1, 4440), lastRow(),
		}},
		{"three stones, four loads", sample, four, []impl.Row{
			rw(0, 0, 1, 0), rw(-3, -2, -1, 0), rw(2, -5, 1, -536), rw(-6, 4, -1, 376),
			rw(2, -11, 1, -2300), rw(-6, 12, -1, 2728), rw(0, -16, 1, -4692), rw(-3, 18, -1, 5830), lastRow(),
		}},
		{"seven stones", seven, []impl.Load{}, []impl.Row{
			rw(0, 20, 1, 0), rw(-4, -20, -1, 0), rw(0, 15, 1, -300), rw(-4, -15, -1, 300), rw(0, 10, 1, -1200), rw(-4, -10, -1, 1200),
			rw(0, 5, 1, -2700), rw(-4, -5, -1, 2700), rw(0, 0, 1, -4800), rw(-4, 0, -1, 4800), rw(0, -5, 1, -7500), rw(-4, 5, -1, 7500),
			rw(0, -10, 1, -10800), rw(-4, 10, -1, 10800), rw(0, -15, 1, -14700), rw(-4, 15, -1, 14700), lastRow(),
		}},
	}
	for _, c := range cases {
		if got := impl.RowsOf(c.a, c.loads); !slices.Equal(got, c.want) {
			t.Errorf("%s: RowsOf(%v, %v) = %v, want %v", c.name, c.a, c.loads, got, c.want)
		}
	}
}

func TestRowsOfEveryArch(t *testing.T) {
	for _, a := range append(validArches(), fallingFeet(), twoTowers()) {
		for _, loads := range someLoads(len(a.Joints) - 1) {
			got := impl.RowsOf(a, loads)
			if want := rowsByText(a, loads); !slices.Equal(got, want) {
				t.Fatalf("RowsOf(%v, %v) = %v, want %v", a, loads, got, want)
			}
			if len(got) != 2*len(a.Joints)+1 || got[len(got)-1] != lastRow() {
				t.Fatalf("RowsOf(%v, %v) = %v: wrong length or last row", a, loads, got)
			}
			if i := slices.IndexFunc(got, func(r impl.Row) bool { return !isRowByText(r) }); i >= 0 {
				t.Fatalf("RowsOf(%v, %v) = %v: row %d is out of range", a, loads, got, i)
			}
		}
	}
	for _, c := range loadCases() {
		if got, want := impl.RowsOf(c.a, c.loads), rowsByText(c.a, c.loads); !slices.Equal(got, want) {
			t.Errorf("%s: RowsOf(%v, %v) = %v, want %v", c.name, c.a, c.loads, got, want)
		}
	}
}

// checkNoRows tests that there are no rows, and that no thrust fulfills them.
func checkNoRows(t *testing.T, name string, a impl.Arch, loads []impl.Load) {
	t.Helper()
	rows := impl.RowsOf(a, loads)
	if len(rows) != 0 {
		t.Errorf("%s: RowsOf(%v, %v) = %v, want nil", name, a, loads, rows)
	}
	checkFulfillsAll(t, th(48, 96, 0, 1), rows, false)
}

func TestRowsOfInvalid(t *testing.T) {
	for _, c := range invalidArches() {
		for _, loads := range [][]impl.Load{nil, {}, {ld(0, 10, 1)}} {
			checkNoRows(t, c.name, c.a, loads)
		}
	}
	for _, a := range validArches() {
		for _, c := range invalidLoads(len(a.Joints) - 1) {
			checkNoRows(t, c.name, a, c.loads)
		}
	}
}

// rowSorts are rows for the thrust 48, 96, 0: one that it just meets, one that
// it breaks, and ones that it would fulfill if they were valid.
func rowSorts() (kept impl.Row, broken impl.Row, beyond []impl.Row) {
	return rw(0, -4, 1, -384), rw(0, -4, 1, -385), []impl.Row{rw(-101, 0, 0, 0), rw(0, 0, 2, 0), rw(0, 0, 0, topBound+1)}
}

// manyRows is n times r, but with one as the row at.
func manyRows(r impl.Row, n int, at int, one impl.Row) []impl.Row {
	rows := slices.Repeat([]impl.Row{r}, n)
	rows[at] = one
	return rows
}

func TestFulfillsAllCount(t *testing.T) {
	x := th(48, 96, 0, 1)
	kept, broken, beyond := rowSorts()
	checkFulfillsAll(t, x, nil, false)
	checkFulfillsAll(t, x, []impl.Row{}, false)
	for n := range 90 {
		want := n >= 1 && n <= 40
		checkFulfillsAll(t, x, slices.Repeat([]impl.Row{kept}, n), want)
		checkFulfillsAll(t, th(2*x.H, 2*x.V, 2*x.M, 2), slices.Repeat([]impl.Row{kept}, n), false)
		checkFulfillsAll(t, x, slices.Repeat([]impl.Row{broken}, n), false)
		checkFulfillsAll(t, x, slices.Repeat(beyond[:1], n), false)
		// Only the first row, one in the middle, or the last one is another one.
		for at := range n {
			checkFulfillsAll(t, x, manyRows(kept, n, at, broken), false)
			checkFulfillsAll(t, x, manyRows(kept, n, at, lastRow()), want)
			for _, r := range beyond {
				checkFulfillsAll(t, x, manyRows(kept, n, at, r), false)
			}
		}
	}
}

func TestFulfillsAllInvalidThrusts(t *testing.T) {
	for _, n := range []int{0, 1, 2, 40, 41} {
		for _, x := range invalidThrusts() {
			checkFulfillsAll(t, x, make([]impl.Row, n), false)
			checkFulfillsAll(t, x, slices.Repeat([]impl.Row{rw(0, 0, 0, topBound)}, n), false)
		}
		for _, x := range validThrusts() {
			checkFulfillsAll(t, x, make([]impl.Row, n), n >= 1 && n <= 40)
		}
	}
}

func TestCountBroken(t *testing.T) {
	x := th(48, 96, 0, 1)
	kept, broken, beyond := rowSorts()
	checkBroken(t, x, nil, 0)
	checkBroken(t, x, []impl.Row{}, 0)
	checkBroken(t, x, []impl.Row{broken, kept, broken}, 2)
	checkBroken(t, x, []impl.Row{kept, broken, lastRow(), broken, broken}, 3)
	checkBroken(t, th(0, 0, 0, 1), impl.RowsOf(upright(3, 0, 4), nil), 2)
	for n := range 90 {
		checkBroken(t, x, slices.Repeat([]impl.Row{kept}, n), 0)
		checkBroken(t, x, slices.Repeat([]impl.Row{broken}, n), n)
		for at := range n {
			checkBroken(t, x, manyRows(kept, n, at, broken), 1)
			checkBroken(t, x, manyRows(broken, n, at, kept), n-1)
			for _, r := range beyond {
				checkBroken(t, x, manyRows(kept, n, at, r), 0)
				checkBroken(t, x, manyRows(broken, n, at, r), n-1)
			}
		}
	}
}

// Rows that are not valid do not count, where their sum would be too great as
// well.
func TestCountBrokenInvalidRows(t *testing.T) {
	x := th(48, 96, 1, 1)
	wrong := []impl.Row{rw(101, 0, 0, 0), rw(0, 101, 0, 0), rw(0, 0, 2, 0), rw(0, 0, 0, -topBound-1), rw(math.MaxInt, 0, 0, 0), rw(0, 0, 0, math.MinInt)}
	right := []impl.Row{rw(100, 0, 0, 0), rw(0, 100, 0, 0), rw(0, 0, 1, 0), rw(0, 0, 0, -topBound)}
	checkBroken(t, x, wrong, 0)
	checkBroken(t, x, right, 4)
	checkBroken(t, x, slices.Concat(wrong, right, wrong), 4)
	for _, r := range wrong {
		checkBroken(t, x, []impl.Row{r}, 0)
		checkBroken(t, x, []impl.Row{right[0], r, right[1]}, 2)
	}
}

func TestCountBrokenInvalidThrusts(t *testing.T) {
	_, broken, beyond := rowSorts()
	for _, x := range invalidThrusts() {
		for _, rows := range [][]impl.Row{nil, {}, {{}}, {broken}, beyond, make([]impl.Row, 40), make([]impl.Row, 41)} {
			checkBroken(t, x, rows, -1)
		}
	}
}

// All rows at once, and parts of them.
func TestCountBrokenEveryThrust(t *testing.T) {
	rows := append(validRows(), invalidRows()...)
	for _, x := range append(validThrusts(), invalidThrusts()...) {
		for _, part := range [][]impl.Row{rows, rows[:40], rows[20:30], rows[len(rows)-60:]} {
			checkBroken(t, x, part, brokenByText(x, part))
			checkFulfillsAll(t, x, part, fulfillsAllByText(x, part))
		}
	}
}

// The last row of an arch says that H is not negative, as it never is.
func TestLastRowIsNeverBroken(t *testing.T) {
	for _, a := range validArches() {
		rows := impl.RowsOf(a, nil)
		last := rows[len(rows)-1:]
		for _, x := range validThrusts() {
			checkBroken(t, x, last, 0)
			checkFulfillsAll(t, x, last, true)
		}
	}
	checkBroken(t, th(-1, 0, 0, 1), []impl.Row{lastRow()}, -1)
	checkFulfillsAll(t, th(-1, 0, 0, 1), []impl.Row{lastRow()}, false)
}

// twoTowers are two stones that stand side by side on flat abutments and touch
// at the top: they need no force to the right.
func twoTowers() impl.Arch {
	return archOf(jt(-1, 0, -12, 0), jt(0, 10, 0, 12), jt(1, 0, 12, 0))
}

// det is the determinant of three rows of three numbers.
func det(p [3]int, q [3]int, r [3]int) int {
	return p[0]*(q[1]*r[2]-q[2]*r[1]) - p[1]*(q[0]*r[2]-q[2]*r[0]) + p[2]*(q[0]*r[1]-q[1]*r[0])
}

// meetingThrusts are the thrusts that just meet three of the rows.
func meetingThrusts(rows []impl.Row) []impl.Thrust {
	var list []impl.Thrust
	for i, p := range rows {
		for k, q := range rows[:i] {
			for _, r := range rows[:k] {
				a, b, c, d := [3]int{p.A, q.A, r.A}, [3]int{p.B, q.B, r.B}, [3]int{p.C, q.C, r.C}, [3]int{p.D, q.D, r.D}
				whole := det(a, b, c)
				if whole == 0 {
					continue
				}
				x, ok := thrustOf(quotient(det(d, b, c), whole), quotient(det(a, d, c), whole), quotient(det(a, b, d), whole))
				if ok {
					list = append(list, x)
				}
			}
		}
	}
	return list
}

// passingThrusts are thrusts that meet three of the rows, and ones halfway
// between two of them that fulfill all rows.
func passingThrusts(rows []impl.Row) []impl.Thrust {
	list := meetingThrusts(rows)
	var all []impl.Thrust
	for _, x := range list {
		if fulfillsAllByText(x, rows) && !slices.Contains(all, x) {
			all = append(all, x)
		}
	}
	for i, x := range all {
		for _, y := range all[:i] {
			if z, ok := mixedByText(x, y); ok {
				list = append(list, z)
			}
		}
	}
	return list
}

// passedJoints counts the joints that x passes, and those of them where it
// passes through Inner or through Outer.
func passedJoints(a impl.Arch, loads []impl.Load, x impl.Thrust) (passed int, atInner int, atOuter int) {
	for k := range a.Joints {
		if !impl.IsInside(a, loads, x, k) {
			continue
		}
		passed++
		inner, outer := impl.MomentsAt(a, loads, x, k)
		if inner == 0 {
			atInner++
		}
		if outer == 0 {
			atOuter++
		}
	}
	return passed, atInner, atOuter
}

// checkPassesAll tests promise 10 for one thrust, and for each joint alone.
// It returns what kinds of thrust it is.
func checkPassesAll(t *testing.T, a impl.Arch, loads []impl.Load, rows []impl.Row, x impl.Thrust) []string {
	t.Helper()
	n := len(a.Joints)
	broken := 0
	for k := range n {
		both := rows[2*k : 2*k+2]
		inside := impl.IsInside(a, loads, x, k)
		if inside != impl.FulfillsAll(x, both) || inside != (impl.CountBroken(x, both) == 0) {
			t.Fatalf("IsInside(%v, %v, %v, %d) is %v, and the rows are %v", a, loads, x, k, inside, both)
		}
		broken += impl.CountBroken(x, both)
	}
	passed, atInner, atOuter := passedJoints(a, loads, x)
	if impl.FulfillsAll(x, rows) != (passed == n) || impl.CountBroken(x, rows) != broken {
		t.Fatalf("%v passes %d joints of %v with %v, and the rows are %v", x, passed, a, loads, rows)
	}
	var kinds []string
	add := func(is bool, kind string) {
		if is {
			kinds = append(kinds, kind)
		}
	}
	add(passed == n && atInner+atOuter == 0, "touches no end")
	add(passed == n && atInner == 1 && atOuter == 0, "touches one Inner")
	add(passed == n && atInner == 0 && atOuter == 1, "touches one Outer")
	add(passed == n && atInner+atOuter >= 3, "touches three ends")
	add(passed == n-1, "passes all but one")
	add(passed == 0, "passes none")
	add(x.H == 0 && passed == n, "H 0, passes all")
	add(x.H == 0 && passed == n-1, "H 0, passes all but one")
	return kinds
}

// Promise 10.
func TestFulfillingAllRowsIsPassingAllJoints(t *testing.T) {
	tried := map[string]int{}
	for _, a := range append(validArches(), fallingFeet(), twoTowers()) {
		n := len(a.Joints) - 1
		for _, loads := range [][]impl.Load{nil, {ld(n-1, 77, 3), ld(n/2, 10000, 60), ld(0, 1, -60)}} {
			rows := impl.RowsOf(a, loads)
			for _, x := range slices.Concat(passingThrusts(rows), somePushes(a, loads), validThrusts()) {
				for _, kind := range checkPassesAll(t, a, loads, rows, x) {
					tried[kind]++
				}
			}
			for _, x := range invalidThrusts() {
				checkFulfillsAll(t, x, rows, false)
				checkBroken(t, x, rows, -1)
			}
		}
	}
	for _, kind := range []string{
		"touches no end", "touches one Inner", "touches one Outer", "touches three ends",
		"passes all but one", "passes none", "H 0, passes all", "H 0, passes all but one",
	} {
		if tried[kind] == 0 {
			t.Errorf("no thrust that %s was tried", kind)
		}
	}
}

// Thrusts of two stones by hand: between the least thrust and others.
func TestPassingAllJointsOfTwoStones(t *testing.T) {
	a := upright(3, 0, 4)
	cases := []struct {
		name   string
		x      impl.Thrust
		broken int
	}{
		{"the least thrust", th(48, 96, 0, 1), 0},
		{"between the ends", th(100, 96, -100, 1), 0},
		{"at Inner of joint 0 only", th(100, 96, 0, 1), 0},
		{"at Outer of joint 1 only", th(100, 96, -208, 1), 0},
		{"one beyond Inner of the outer joints", th(100, 96, 1, 1), 2},
		{"beyond Inner of joint 0 only", th(100, 97, 1, 1), 1},
		{"beyond Inner of the last joint only", th(100, 95, -1, 1), 1},
		{"beyond Outer of joint 1 only", th(47, 96, 0, 1), 1},
		{"half of 1 less than the least thrust", th(95, 192, 0, 2), 1},
		{"half of 1 more than the least thrust", th(97, 192, 0, 2), 0},
		{"no force to the right", th(0, 96, 0, 1), 1},
		{"no force to the right, but a moment", th(0, 96, 192, 1), 2},
		{"nothing", th(0, 0, 0, 1), 2},
	}
	rows := impl.RowsOf(a, nil)
	for _, c := range cases {
		checkFulfillsAll(t, c.x, rows, c.broken == 0)
		checkBroken(t, c.x, rows, c.broken)
		checkPassesAll(t, a, nil, rows, c.x)
		if got := brokenByText(c.x, rowsByText(a, nil)); got != c.broken {
			t.Errorf("%s: %d rows are broken by the text, want %d", c.name, got, c.broken)
		}
	}
}

// spoilRows overwrites the memory of a result, its spare capacity too.
func spoilRows(rows []impl.Row) {
	all := rows[:cap(rows)]
	for i := range all {
		all[i] = rw(9, 9, 9, 9)
	}
}

func TestRowResultsShareNoMemory(t *testing.T) {
	a := copyOfArch(archCases()[4].a)
	loads := []impl.Load{ld(0, 10, 1), ld(1, 7, -2)}
	want := rowsByText(a, loads)
	first, second := impl.RowsOf(a, loads), impl.RowsOf(a, loads)
	spoilRows(first)
	third := impl.RowsOf(a, loads)
	a.Joints[1], loads[0] = jt(9, 9, 9, 9), ld(9, 9, 9)
	if !slices.Equal(second, want) || !slices.Equal(third, want) {
		t.Errorf("RowsOf returned %v and %v, want %v", second, third, want)
	}
}

func TestRowArgumentsUnchanged(t *testing.T) {
	checkKeepsArguments(t, func(a impl.Arch, loads []impl.Load) {
		spoilRows(impl.RowsOf(a, loads))
	})
	all := append(validRows(), invalidRows()...)
	before := slices.Clone(all)
	for _, x := range append(validThrusts(), invalidThrusts()...) {
		for _, n := range []int{0, 1, 2, 30, 40, 41, len(all)} {
			// What is behind the first n rows is spare capacity.
			impl.FulfillsAll(x, all[:n])
			impl.CountBroken(x, all[:n])
		}
	}
	if !slices.Equal(all, before) {
		t.Errorf("the rows %v became %v", before, all)
	}
}
