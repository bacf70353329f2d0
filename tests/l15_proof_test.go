package tests

import (
	"math"
	"math/big"
	"math/rand"
	"slices"
	"strconv"
	"strings"
	"sync"
	"testing"

	"loop.example/g03301/impl"
)

// topFactor is the greatest factor that the document allows in Chapter 15.
const topFactor = 1000000

func pf(rows []int, factors ...int) impl.Proof {
	return impl.Proof{Rows: rows, Factors: factors}
}

func sameProof(p impl.Proof, q impl.Proof) bool {
	return slices.Equal(p.Rows, q.Rows) && slices.Equal(p.Factors, q.Factors)
}

func copyOfProof(p impl.Proof) impl.Proof {
	return pf(slices.Clone(p.Rows), slices.Clone(p.Factors)...)
}

// isProofOkByText follows the sentence of the document.
func isProofOkByText(rows []impl.Row, p impl.Proof) bool {
	if len(rows) > 40 || slices.ContainsFunc(rows, func(r impl.Row) bool { return !isRowByText(r) }) {
		return false
	}
	for i, k := range p.Rows {
		if k < 0 || k >= len(rows) || i > 0 && p.Rows[i-1] >= k {
			return false
		}
	}
	for _, factor := range p.Factors {
		if factor < 1 || factor > 1000000 {
			return false
		}
	}
	return len(p.Rows) >= 1 && len(p.Rows) <= 4 && len(p.Factors) == len(p.Rows)
}

// sumsByText follows the sentence of the document, with numbers of any size.
func sumsByText(t *testing.T, rows []impl.Row, p impl.Proof) [4]int {
	t.Helper()
	var sums [4]int
	if !isProofOkByText(rows, p) {
		return sums
	}
	for at := range sums {
		sum := new(big.Int)
		for i, k := range p.Rows {
			n := [...]int{rows[k].A, rows[k].B, rows[k].C, rows[k].D}[at]
			sum.Add(sum, new(big.Int).Mul(big.NewInt(int64(p.Factors[i])), big.NewInt(int64(n))))
		}
		if !sum.IsInt64() {
			t.Fatalf("a sum of %v with %v is %v", rows, p, sum)
		}
		sums[at] = int(sum.Int64())
	}
	return sums
}

// isProvedByText follows the sentence of the document for these sums.
func isProvedByText(sums [4]int) bool {
	return sums[0] == 0 && sums[1] == 0 && sums[2] == 0 && sums[3] < 0
}

// scaledByText follows the sentence of the document. The products of numbers out
// of range, which may overflow, are not asked for.
func scaledByText(rows []impl.Row, p impl.Proof, n int) (impl.Proof, bool) {
	if n < 1 || n > 1000 || !isProofOkByText(rows, p) {
		return impl.Proof{}, false
	}
	var scaled impl.Proof
	for i, factor := range p.Factors {
		scaled.Rows = append(scaled.Rows, p.Rows[i])
		scaled.Factors = append(scaled.Factors, n*factor)
	}
	if !isProofOkByText(rows, scaled) {
		return impl.Proof{}, false
	}
	return scaled, true
}

// textByText follows the sentence of the document.
func textByText(p impl.Proof) string {
	text := ""
	if len(p.Factors) != len(p.Rows) {
		return text
	}
	for i, k := range p.Rows {
		text += strconv.Itoa(p.Factors[i]) + "x" + strconv.Itoa(k) + " "
	}
	return strings.TrimSuffix(text, " ")
}

// checkSumsOf tests ProofOk, SumOfRows and IsProof.
func checkSumsOf(t *testing.T, rows []impl.Row, p impl.Proof, ok bool, sums [4]int, is bool) {
	t.Helper()
	if got := impl.ProofOk(rows, p); got != ok {
		t.Fatalf("ProofOk(%v, %v) = %v, want %v", rows, p, got, ok)
	}
	a, b, c, d := impl.SumOfRows(rows, p)
	if got := [...]int{a, b, c, d}; got != sums {
		t.Fatalf("SumOfRows(%v, %v) = %v, want %v", rows, p, got, sums)
	}
	if got := impl.IsProof(rows, p); got != is {
		t.Fatalf("IsProof(%v, %v) = %v, want %v", rows, p, got, is)
	}
}

// checkScaled tests ScaleProof, and the sums of its result.
func checkScaled(t *testing.T, rows []impl.Row, p impl.Proof, n int, want impl.Proof, ok bool) {
	t.Helper()
	got, scaled := impl.ScaleProof(rows, p, n)
	if !sameProof(got, want) || scaled != ok {
		t.Fatalf("ScaleProof(%v, %v, %d) = %v, %v, want %v, %v", rows, p, n, got, scaled, want, ok)
	}
	if !scaled {
		return
	}
	sums := sumsByText(t, rows, p)
	for i := range sums {
		sums[i] *= n
	}
	checkSumsOf(t, rows, got, true, sums, impl.IsProof(rows, p))
}

func checkNotScalable(t *testing.T, rows []impl.Row, p impl.Proof, n int) {
	t.Helper()
	checkScaled(t, rows, p, n, impl.Proof{}, false)
}

func checkText(t *testing.T, p impl.Proof, want string) {
	t.Helper()
	if got := impl.ProofText(p); got != want {
		t.Fatalf("ProofText(%v) = %q, want %q", p, got, want)
	}
}

// checkProofByText tests all five functions against the sentences of the
// document, and reports whether p is valid and whether it is a proof.
func checkProofByText(t *testing.T, rows []impl.Row, p impl.Proof) (ok bool, is bool) {
	t.Helper()
	sums := sumsByText(t, rows, p)
	ok, is = isProofOkByText(rows, p), isProvedByText(sums)
	checkSumsOf(t, rows, p, ok, sums, is)
	for _, n := range []int{0, 1, 7, 1000} {
		want, scaled := scaledByText(rows, p, n)
		checkScaled(t, rows, p, n, want, scaled)
	}
	checkText(t, p, textByText(p))
	return ok, is
}

// checkNoProof tests that p is not valid for rows.
func checkNoProof(t *testing.T, rows []impl.Row, p impl.Proof) {
	t.Helper()
	checkSumsOf(t, rows, p, false, [4]int{}, false)
	for _, n := range []int{-1, 0, 1, 2, 1000, 1001} {
		checkNotScalable(t, rows, p, n)
	}
	checkText(t, p, textByText(p))
}

// proofCase are factors of rows with their sums.
type proofCase struct {
	name string
	rows []impl.Row
	p    impl.Proof
	sums [4]int
	is   bool
}

// fewRows are five rows of which the first two contradict each other, and the
// first four as well.
func fewRows() []impl.Row {
	return []impl.Row{rw(1, 0, 0, -1), lastRow(), rw(2, -3, 1, -7), rw(-1, 3, -1, 5), rw(4, 5, 1, 6)}
}

// smallProofs are proofs, and factors whose sums miss one by as little as can be.
func smallProofs() []proofCase {
	two, one := []int{0, 1}, []int{0}
	return []proofCase{
		{"two rows", fewRows(), pf(two, 1, 1), [4]int{0, 0, 0, -1}, true},
		{"two rows, greater factors", fewRows(), pf(two, 7, 7), [4]int{0, 0, 0, -7}, true},
		{"four rows", fewRows(), pf([]int{0, 1, 2, 3}, 1, 2, 1, 1), [4]int{0, 0, 0, -3}, true},
		{"three rows", fewRows(), pf([]int{1, 2, 3}, 1, 1, 1), [4]int{0, 0, 0, -2}, true},
		{"one row alone", []impl.Row{rw(0, 0, 0, -1)}, pf(one, 1), [4]int{0, 0, 0, -1}, true},
		{"one row alone, D at its least", []impl.Row{rw(0, 0, 0, -topBound)}, pf(one, 3), [4]int{0, 0, 0, -3 * topBound}, true},
		{"D 0", []impl.Row{{}}, pf(one, 1), [4]int{}, false},
		{"D 0 of two rows", []impl.Row{rw(1, -2, 1, 5), rw(-1, 2, -1, -5)}, pf(two, 4, 4), [4]int{}, false},
		{"D 0 of two rows with other factors", []impl.Row{rw(3, 0, 0, 6), rw(-2, 0, 0, -4)}, pf(two, 2, 3), [4]int{}, false},
		{"D positive", []impl.Row{rw(0, 0, 0, 1)}, pf(one, 1), [4]int{0, 0, 0, 1}, false},
		{"D positive of two rows", []impl.Row{rw(1, -2, 1, 5), rw(-1, 2, -1, -4)}, pf(two, 1, 1), [4]int{0, 0, 0, 1}, false},
		{"D negative of two rows", []impl.Row{rw(1, -2, 1, 5), rw(-1, 2, -1, -6)}, pf(two, 1, 1), [4]int{0, 0, 0, -1}, true},
		{"D negative, but that of one row positive", []impl.Row{rw(3, 0, 0, 6), rw(-2, 0, 0, -5)}, pf(two, 2, 3), [4]int{0, 0, 0, -3}, true},
		// One of the three sums alone is not 0.
		{"only A positive", []impl.Row{rw(2, -2, 1, -5), rw(-1, 2, -1, -6)}, pf(two, 1, 1), [4]int{1, 0, 0, -11}, false},
		{"only A negative", []impl.Row{rw(0, -2, 1, -5), rw(-1, 2, -1, -6)}, pf(two, 1, 1), [4]int{-1, 0, 0, -11}, false},
		{"only B positive", []impl.Row{rw(1, -1, 1, -5), rw(-1, 2, -1, -6)}, pf(two, 1, 1), [4]int{0, 1, 0, -11}, false},
		{"only B negative", []impl.Row{rw(1, -3, 1, -5), rw(-1, 2, -1, -6)}, pf(two, 1, 1), [4]int{0, -1, 0, -11}, false},
		{"only C positive", []impl.Row{rw(1, -2, 1, -5), rw(-1, 2, 0, -6)}, pf(two, 1, 1), [4]int{0, 0, 1, -11}, false},
		{"only C negative", []impl.Row{rw(1, -2, 0, -5), rw(-1, 2, -1, -6)}, pf(two, 1, 1), [4]int{0, 0, -1, -11}, false},
		{"only A, of one row", []impl.Row{rw(1, 0, 0, -1)}, pf(one, 1), [4]int{1, 0, 0, -1}, false},
		{"only B, of one row", []impl.Row{rw(0, -1, 0, -1)}, pf(one, 5), [4]int{0, -5, 0, -5}, false},
		{"only C, of one row", []impl.Row{rw(0, 0, 1, -1)}, pf(one, 2), [4]int{0, 0, 2, -2}, false},
		{"A and B, whose sum is 0", []impl.Row{rw(1, -1, 0, -1)}, pf(one, 1), [4]int{1, -1, 0, -1}, false},
		{"B and C, whose sum is 0", []impl.Row{rw(0, -1, 1, -1)}, pf(one, 1), [4]int{0, -1, 1, -1}, false},
		{"A and C, whose sum is 0", []impl.Row{rw(-1, 0, 1, -1)}, pf(one, 1), [4]int{-1, 0, 1, -1}, false},
		// The sums are 0 without the factors, or with the factors exchanged.
		{"the factors spoil it", fewRows(), pf(two, 1, 2), [4]int{-1, 0, 0, -1}, false},
		{"the factors exchanged", []impl.Row{rw(3, 0, 0, 6), rw(-2, 0, 0, -5)}, pf(two, 3, 2), [4]int{5, 0, 0, 8}, false},
		{"rows that are not named would spoil it", fewRows(), pf([]int{0, 1}, 3, 3), [4]int{0, 0, 0, -3}, true},
		{"rows that are not named would complete it", fewRows(), pf([]int{2, 3}, 1, 1), [4]int{1, 0, 0, -2}, false},
		{"equal rows", slices.Repeat([]impl.Row{rw(0, 0, 0, -2)}, 4), pf([]int{0, 1, 2, 3}, 1, 10, 100, 1000), [4]int{0, 0, 0, -2222}, true},
	}
}

// greatProofs have the greatest numbers that valid rows and factors allow.
func greatProofs() []proofCase {
	greatest, least := rw(topLever, topLever, 1, topBound), rw(-topLever, -topLever, -1, -topBound)
	mixed := []impl.Row{greatest, least, greatest, least}
	all, two := []int{0, 1, 2, 3}, []int{0, 1}
	const f = topFactor
	return []proofCase{
		{"the greatest sums of one row", mixed, pf([]int{0}, f), [4]int{100 * f, 100 * f, f, f * topBound}, false},
		{"the least sums of one row", mixed, pf([]int{3}, f), [4]int{-100 * f, -100 * f, -f, -f * topBound}, false},
		{"the greatest sums", slices.Repeat([]impl.Row{greatest}, 4), pf(all, f, f, f, f), [4]int{400 * f, 400 * f, 4 * f, 4 * f * topBound}, false},
		{"the least sums", slices.Repeat([]impl.Row{least}, 4), pf(all, f, f, f, f), [4]int{-400 * f, -400 * f, -4 * f, -4 * f * topBound}, false},
		{"great numbers that cancel", mixed, pf(all, f, f, f, f), [4]int{}, false},
		{"great numbers that cancel, but for one factor", mixed, pf(all, f, f, f-1, f), [4]int{-100, -100, -1, -topBound}, false},
		{"great factors and zeros", make([]impl.Row, 4), pf(all, f, f, f, f), [4]int{}, false},
		{"D alone, the least sum of all", slices.Repeat([]impl.Row{rw(0, 0, 0, -topBound)}, 4), pf(all, f, f, f, f), [4]int{0, 0, 0, -4 * f * topBound}, true},
		{"D alone, the greatest sum of all", slices.Repeat([]impl.Row{rw(0, 0, 0, topBound)}, 4), pf(all, f, f, f, f), [4]int{0, 0, 0, 4 * f * topBound}, false},
		// Great products, whose sum is 1 less than 0, or 0, or 1 more.
		{"D just negative", []impl.Row{rw(0, 0, 0, -1), rw(0, 0, 0, 1)}, pf(two, f, f-1), [4]int{0, 0, 0, -1}, true},
		{"D just 0", []impl.Row{rw(0, 0, 0, 1-f), rw(0, 0, 0, f)}, pf(two, f, f-1), [4]int{}, false},
		{"D just positive", []impl.Row{rw(0, 0, 0, 1), rw(0, 0, 0, -1)}, pf(two, f, f-1), [4]int{0, 0, 0, 1}, false},
		{"D just negative of four", []impl.Row{greatest, rw(0, 0, 0, -1), least, {}}, pf(all, f, 1, f, f), [4]int{0, 0, 0, -1}, true},
		{"D just positive of four", []impl.Row{least, greatest, {}, rw(0, 0, 0, 1)}, pf(all, f, f, 1, 1), [4]int{0, 0, 0, 1}, false},
		{"A just positive", []impl.Row{rw(100, 0, 0, -topBound), rw(-100, 0, 0, -topBound), rw(1, 0, 0, 0)}, pf([]int{0, 1, 2}, f, f, 1), [4]int{1, 0, 0, -2 * f * topBound}, false},
		{"A just negative", []impl.Row{rw(100, 0, 0, -topBound), rw(-1, 0, 0, -topBound), lastRow()}, pf([]int{0, 1, 2}, 10000, f-1, 2), [4]int{-1, 0, 0, -(f + 9999) * topBound}, false},
		{"A just 0", []impl.Row{rw(100, 0, 0, -topBound), rw(-1, 0, 0, topBound), lastRow()}, pf([]int{0, 1, 2}, 10000, f-1, 1), [4]int{0, 0, 0, (f - 10001) * topBound}, false},
		{"the greatest factor beside a small one", []impl.Row{rw(100, -100, 0, -topBound), rw(-1, 1, 0, 0)}, pf(two, 10000, f), [4]int{0, 0, 0, -10000 * topBound}, true},
	}
}

// archProofs are proofs of arches that fall, and of one that just stands.
func archProofs() []proofCase {
	five := impl.RowsOf(fiveHinges(), []impl.Load{ld(1, 1, -2)})
	just, more := impl.RowsOf(gable(), []impl.Load{ld(1, 48, 6)}), impl.RowsOf(gable(), []impl.Load{ld(1, 49, 6)})
	push, load := held()
	return []proofCase{
		{"four hinges", five, pf([]int{0, 3, 4, 7}, 4, 19, 24, 9), [4]int{0, 0, 0, -12}, true},
		{"four hinges, but one factor", five, pf([]int{0, 3, 4, 7}, 4, 19, 25, 9), [4]int{16, 0, 1, -125}, false},
		{"three joints", impl.RowsOf(sag(), nil), pf([]int{0, 3, 4}, 1, 2, 1), [4]int{0, 0, 0, -384}, true},
		{"three joints and no push to the left", more, pf([]int{1, 2, 5, 6}, 1, 2, 1, 2), [4]int{0, 0, 0, -3}, true},
		{"the same joints under the load that just stands", just, pf([]int{1, 2, 5, 6}, 1, 2, 1, 2), [4]int{}, false},
		{"without the last row", more, pf([]int{1, 2, 5}, 1, 2, 1), [4]int{2, 0, 0, -3}, false},
		{"four hinges of three joints", more, pf([]int{0, 1, 2, 5}, 1, 3, 4, 2), [4]int{0, 0, 0, -6}, true},
		{"only a push to the left", impl.RowsOf(push, load), pf([]int{1, 2, 5, 6}, 4, 29, 25, 2327), [4]int{0, 0, 0, -74146}, true},
	}
}

func proofCases() []proofCase {
	return slices.Concat(smallProofs(), greatProofs(), archProofs())
}

func TestProofs(t *testing.T) {
	for _, c := range proofCases() {
		t.Run(c.name, func(t *testing.T) {
			checkSumsOf(t, c.rows, c.p, true, c.sums, c.is)
			checkProofByText(t, c.rows, c.p)
			// Other rows behind those of the proof make no difference.
			for n := len(c.rows); n <= 40; n++ {
				checkSumsOf(t, slices.Concat(c.rows, slices.Repeat([]impl.Row{rw(topLever, -topLever, 1, -topBound)}, n-len(c.rows))), c.p, true, c.sums, c.is)
			}
		})
	}
}

// spread puts the rows that p names among n others, with the indices at.
func spread(c proofCase, n int, other impl.Row, at []int) ([]impl.Row, impl.Proof) {
	rows := slices.Repeat([]impl.Row{other}, n)
	for i, k := range c.p.Rows {
		rows[at[i]] = c.rows[k]
	}
	return rows, pf(slices.Clone(at[:len(c.p.Rows)]), c.p.Factors...)
}

// The rows of the proof are at other indices, up to the last one of 40.
func TestProofsOfOtherIndices(t *testing.T) {
	for _, c := range proofCases() {
		for _, at := range [][]int{{0, 13, 26, 39}, {36, 37, 38, 39}, {1, 2, 4, 8}, {0, 37, 38, 39}} {
			for _, other := range []impl.Row{{}, lastRow(), rw(0, 0, 0, -topBound), rw(topLever, topLever, 1, topBound), rw(-topLever, -topLever, -1, -topBound)} {
				rows, p := spread(c, 40, other, at)
				checkSumsOf(t, rows, p, true, c.sums, c.is)
			}
		}
	}
}

func TestProofOkCountOfRows(t *testing.T) {
	for n := range 46 {
		rows := slices.Repeat([]impl.Row{rw(0, 0, 0, -1)}, n)
		for _, at := range [][]int{{0}, {n - 1}, {n}, {0, n - 1}, {n - 2, n - 1}, {0, 1, n - 2, n - 1}, {n - 4, n - 3, n - 2, n - 1}, {n - 1, n}} {
			p := pf(at, slices.Repeat([]int{2}, len(at))...)
			fits := n <= 40 && at[0] >= 0 && at[len(at)-1] < n && (len(at) < 4 || n >= 4) && (len(at) < 2 || n >= 2)
			if !fits {
				checkNoProof(t, rows, p)
				continue
			}
			checkSumsOf(t, rows, p, true, [4]int{0, 0, 0, -2 * len(at)}, true)
			checkProofByText(t, rows, p)
		}
	}
	// The same proof with 0, 1, 40 and 41 rows.
	p := pf([]int{0}, 1)
	checkNoProof(t, nil, p)
	checkNoProof(t, []impl.Row{}, p)
	checkSumsOf(t, make([]impl.Row, 1), p, true, [4]int{}, false)
	checkSumsOf(t, make([]impl.Row, 40), p, true, [4]int{}, false)
	checkNoProof(t, make([]impl.Row, 41), p)
	checkNoProof(t, slices.Repeat(fewRows(), 9), impl.Proof{})
}

// One row that is not valid is the first one, the last one or in between, and
// the proof names it or does not.
func TestProofOkInvalidRows(t *testing.T) {
	named := pf([]int{1, 3}, 1, 1)
	rows := []impl.Row{{}, rw(1, 0, 0, -1), rw(2, 3, 1, 4), lastRow(), {}}
	checkSumsOf(t, rows, named, true, [4]int{0, 0, 0, -1}, true)
	beyond := []impl.Row{rw(101, 0, 0, -1), rw(0, -101, 0, -1), rw(0, 0, 2, -1), rw(0, 0, -2, -1), rw(0, 0, 0, -topBound-1), rw(0, 0, 0, topBound+1)}
	for _, bad := range append(beyond, invalidRows()...) {
		for at := range rows {
			spoilt := slices.Clone(rows)
			spoilt[at] = bad
			checkNoProof(t, spoilt, named)
			for k := range rows {
				checkNoProof(t, spoilt, pf([]int{k}, 1))
			}
			checkNoProof(t, spoilt, pf([]int{0, 1, 2, 3}, 1, 1, 1, 1))
			checkNoProof(t, spoilt, pf([]int{1, 2, 3, 4}, topFactor, 1, topFactor, 1))
		}
		// The last one of 40 rows, and a row behind them.
		checkNoProof(t, append(make([]impl.Row, 39), bad), pf([]int{0}, 1))
		checkNoProof(t, append(make([]impl.Row, 40), bad), pf([]int{0}, 1))
		checkNoProof(t, []impl.Row{bad}, pf([]int{0}, 1))
	}
	for _, r := range validRows() {
		checkProofByText(t, []impl.Row{r}, pf([]int{0}, 1))
	}
	// Two rows that are not valid, which would cancel.
	checkNoProof(t, []impl.Row{rw(101, 0, 0, -1), rw(-101, 0, 0, 0)}, pf([]int{0, 1}, 1, 1))
	checkNoProof(t, []impl.Row{rw(0, 0, 2, -1), rw(0, 0, -2, 0)}, pf([]int{0, 1}, 1, 1))
	checkNoProof(t, []impl.Row{rw(0, 0, 0, math.MinInt), rw(0, 0, 0, math.MaxInt)}, pf([]int{0, 1}, 1, 1))
}

// eachList calls visit for all lists of n of the numbers.
func eachList(numbers []int, n int, visit func(list []int)) {
	if n == 0 {
		visit(nil)
		return
	}
	eachList(numbers, n-1, func(list []int) {
		for _, k := range numbers {
			visit(append(slices.Clone(list), k))
		}
	})
}

// All lists of up to five small indices of three or of five rows.
func TestProofOkEveryIndices(t *testing.T) {
	for _, rows := range [][]impl.Row{fewRows()[:3], fewRows()} {
		valid := map[int]int{}
		for n := range 6 {
			eachList([]int{-1, 0, 1, 2, 3, 4, 5}, n, func(list []int) {
				p := pf(list, slices.Repeat([]int{1}, n)...)
				sums := sumsByText(t, rows, p)
				ok := isProofOkByText(rows, p)
				checkSumsOf(t, rows, p, ok, sums, isProvedByText(sums))
				if ok {
					valid[n]++
				}
			})
		}
		// As many as there are ways to choose one to four of the rows.
		want := map[int]int{1: 3, 2: 3, 3: 1}
		if len(rows) == 5 {
			want = map[int]int{1: 5, 2: 10, 3: 10, 4: 5}
		}
		for n := range 6 {
			if valid[n] != want[n] {
				t.Errorf("%d lists of %d indices of %d rows are valid, want %d", valid[n], n, len(rows), want[n])
			}
		}
	}
}

func TestProofOkIndices(t *testing.T) {
	rows := slices.Repeat([]impl.Row{rw(0, 0, 0, -1)}, 7)
	for _, at := range [][]int{{0}, {3}, {6}, {0, 6}, {5, 6}, {0, 1, 2}, {1, 3, 5}, {0, 1, 2, 3}, {3, 4, 5, 6}, {0, 2, 5, 6}} {
		checkSumsOf(t, rows, pf(at, slices.Repeat([]int{1}, len(at))...), true, [4]int{0, 0, 0, -len(at)}, true)
	}
	for _, at := range [][]int{
		nil, {}, {0, 1, 2, 3, 4}, {2, 3, 4, 5, 6}, {0, 1, 2, 3, 4, 5}, {0, 1, 2, 3, 4, 5, 6}, {0, 1, 2, 3, 4, 5, 6, 7, 8},
		{0, 0}, {6, 6}, {0, 1, 1}, {0, 0, 1}, {0, 1, 2, 2}, {0, 2, 2, 3}, {4, 4, 5, 6}, {3, 3, 3, 3},
		{1, 0}, {6, 5}, {2, 1, 0}, {0, 2, 1}, {1, 0, 2}, {3, 2, 1, 0}, {0, 1, 3, 2}, {0, 2, 1, 3}, {1, 0, 2, 3}, {6, 0, 1, 2},
		{-1}, {-7}, {-1, 0}, {-1, 0, 1, 2}, {-2, -1}, {0, -1}, {5, 6, -1}, {math.MinInt}, {math.MinInt, 0}, {math.MinInt, math.MaxInt},
		{7}, {8}, {0, 7}, {5, 6, 7}, {4, 5, 6, 7}, {3, 4, 5, 8}, {7, 8, 9, 10}, {40}, {math.MaxInt}, {0, math.MaxInt}, {1 << 32}, {0, 1<<32 + 1}, {0, 1 << 62},
	} {
		checkNoProof(t, rows, pf(at, slices.Repeat([]int{1}, len(at))...))
	}
	for _, k := range edgeInts() {
		checkNoProof(t, rows, pf([]int{k}, 1))
		checkNoProof(t, rows, pf([]int{0, k}, 1, 1))
		checkNoProof(t, rows, pf([]int{k, 6}, 1, 1))
	}
}

// Fewer and more factors than indices.
func TestProofOkCountOfFactors(t *testing.T) {
	rows := slices.Repeat([]impl.Row{rw(0, 0, 0, -1)}, 6)
	for indices := range 7 {
		at := []int{0, 1, 2, 3, 4, 5}[:indices]
		for factors := range 8 {
			p := pf(at, slices.Repeat([]int{1}, factors)...)
			if indices == factors && 1 <= indices && indices <= 4 {
				checkSumsOf(t, rows, p, true, [4]int{0, 0, 0, -indices}, true)
			} else {
				checkNoProof(t, rows, p)
			}
		}
	}
	checkNoProof(t, rows, impl.Proof{})
	checkNoProof(t, rows, impl.Proof{Rows: []int{0, 1}})
	checkNoProof(t, rows, impl.Proof{Factors: []int{1, 1}})
	checkNoProof(t, rows, impl.Proof{Rows: []int{0, 1}, Factors: []int{}})
}

// Each factor of one to four at the ends of its range and beyond them.
func TestProofOkFactors(t *testing.T) {
	rows := slices.Repeat([]impl.Row{rw(0, 0, 0, -1)}, 4)
	for n := 1; n <= 4; n++ {
		for at := range n {
			for _, others := range []int{1, 2, topFactor} {
				factors := slices.Repeat([]int{others}, n)
				for _, factor := range []int{1, 2, 999, topFactor - 1, topFactor} {
					factors[at] = factor
					checkSumsOf(t, rows, pf([]int{0, 1, 2, 3}[:n], factors...), true, [4]int{0, 0, 0, -(n-1)*others - factor}, true)
				}
				for _, factor := range append(edgeInts(), -topFactor, -2, -1, 0, topFactor+1, 2*topFactor, 1<<32, 1<<32+1, -1<<32) {
					factors[at] = factor
					checkNoProof(t, rows, pf([]int{0, 1, 2, 3}[:n], factors...))
				}
			}
		}
	}
	// The sums would be those of a proof.
	checkNoProof(t, []impl.Row{rw(0, 0, 0, 1)}, pf([]int{0}, -1))
	checkNoProof(t, []impl.Row{rw(1, 0, 0, 1), rw(1, 0, 0, 2)}, pf([]int{0, 1}, 1, -1))
	checkNoProof(t, []impl.Row{rw(0, 0, 0, -1), rw(1, 0, 0, 0)}, pf([]int{0, 1}, 1, 0))
	checkNoProof(t, []impl.Row{rw(1, 0, 0, -1), lastRow()}, pf([]int{0, 1}, topFactor+1, topFactor+1))
}

// The sums of any valid rows with any valid factors.
func TestSumOfRowsEveryRow(t *testing.T) {
	rows := validRows()
	r := rand.New(rand.NewSource(15))
	for from := 0; from < len(rows); from++ {
		part := rows[from:min(from+40, len(rows))]
		for n := 1; n <= min(4, len(part)); n++ {
			at := r.Perm(len(part))[:n]
			slices.Sort(at)
			factors := make([]int, n)
			for i := range factors {
				factors[i] = []int{1, 2, 1 + r.Intn(topFactor), topFactor - 1, topFactor}[r.Intn(5)]
			}
			if ok, _ := checkProofByText(t, part, pf(at, factors...)); !ok {
				t.Fatalf("%v with %v is not valid", at, factors)
			}
		}
	}
}

// The sums are the same whatever the rows are that are not named.
func TestSumOfRowsOfNamedRowsAlone(t *testing.T) {
	for _, c := range proofCases() {
		for at := range c.rows {
			if slices.Contains(c.p.Rows, at) {
				continue
			}
			for _, other := range validRows() {
				rows := slices.Clone(c.rows)
				rows[at] = other
				checkSumsOf(t, rows, c.p, true, c.sums, c.is)
			}
		}
	}
}

func TestScaleProof(t *testing.T) {
	rows := fewRows()
	cases := []struct {
		name string
		p    impl.Proof
		n    int
		want []int
	}{
		{"once", pf([]int{0, 1}, 3, 4), 1, []int{3, 4}},
		{"twice", pf([]int{0, 1}, 3, 4), 2, []int{6, 8}},
		{"one row", pf([]int{4}, 9), 11, []int{99}},
		{"four rows", pf([]int{0, 1, 2, 4}, 1, 20, 300, 1000), 999, []int{999, 19980, 299700, 999000}},
		{"the most times", pf([]int{1, 3}, 1, 2), 1000, []int{1000, 2000}},
		{"one too many times", pf([]int{1, 3}, 1, 2), 1001, nil},
		{"no times", pf([]int{1, 3}, 1, 2), 0, nil},
		{"negative", pf([]int{1, 3}, 1, 2), -1, nil},
		{"exactly the greatest factor, once", pf([]int{2}, topFactor), 1, []int{topFactor}},
		{"beyond the greatest factor, twice", pf([]int{2}, topFactor), 2, nil},
		{"exactly the greatest factor, twice", pf([]int{2}, 500000), 2, []int{topFactor}},
		{"the next factor, twice", pf([]int{2}, 500001), 2, nil},
		{"the same factor, three times", pf([]int{2}, 500000), 3, nil},
		{"exactly the greatest factor, 125 times", pf([]int{2}, 8000), 125, []int{topFactor}},
		{"the same factor, 126 times", pf([]int{2}, 8000), 126, nil},
		{"the next factor, 125 times", pf([]int{2}, 8001), 125, nil},
		{"exactly the greatest factor, the most times", pf([]int{2}, 1000), 1000, []int{topFactor}},
		{"the next factor, the most times", pf([]int{2}, 1001), 1000, nil},
		{"just below, three times", pf([]int{2}, 333333), 3, []int{999999}},
		{"just beyond, three times", pf([]int{2}, 333334), 3, nil},
	}
	for _, c := range cases {
		t.Run(c.name, func(t *testing.T) {
			if c.want == nil {
				checkNotScalable(t, rows, c.p, c.n)
			} else {
				checkScaled(t, rows, c.p, c.n, pf(c.p.Rows, c.want...), true)
			}
			want, ok := scaledByText(rows, c.p, c.n)
			checkScaled(t, rows, c.p, c.n, want, ok)
		})
	}
}

// The factor that comes to 1000000, or beyond it, is the first one, the last one
// or in between.
func TestScaleProofEachFactor(t *testing.T) {
	rows := fewRows()
	for n := 1; n <= 4; n++ {
		for at := range n {
			for _, times := range []int{1, 2, 4, 5, 8, 10, 125, 500, 1000} {
				factors := slices.Repeat([]int{1}, n)
				factors[at] = topFactor / times
				p := pf([]int{0, 1, 2, 4}[:n], factors...)
				want := slices.Repeat([]int{times}, n)
				want[at] = topFactor
				checkScaled(t, rows, p, times, pf(p.Rows, want...), true)
				checkNotScalable(t, rows, p, times+1)
				p.Factors[at]++
				checkNotScalable(t, rows, p, times)
			}
		}
	}
}

func TestScaleProofEveryTimes(t *testing.T) {
	rows := fewRows()
	for n := -2; n <= 1002; n++ {
		for _, p := range []impl.Proof{pf([]int{0}, 1), pf([]int{0, 1}, 1000, 1), pf([]int{0, 1, 2, 3}, 1, 2, 1, 1001), pf([]int{1, 4}, 1500, 2)} {
			want, ok := scaledByText(rows, p, n)
			checkScaled(t, rows, p, n, want, ok)
		}
	}
	for _, c := range proofCases() {
		for _, n := range append(edgeInts(), -1001, -1000, -2, -1, 0, 1001, 2000, 1<<32, 1<<32+1, 1<<62) {
			checkNotScalable(t, c.rows, c.p, n)
		}
		checkScaled(t, c.rows, c.p, 1, c.p, true)
	}
}

// ProofOk is false for the given proof, also where the products would be valid
// factors.
func TestScaleProofInvalid(t *testing.T) {
	rows := fewRows()
	for _, p := range []impl.Proof{
		{}, pf(nil, 1), pf([]int{0}), pf([]int{0, 1}, 1), pf([]int{0}, 1, 1), pf([]int{1, 0}, 1, 1), pf([]int{0, 0}, 1, 1), pf([]int{-1}, 1), pf([]int{5}, 1),
		pf([]int{0, 1, 2, 3, 4}, 1, 1, 1, 1, 1), pf([]int{0}, 0), pf([]int{0}, -1), pf([]int{0, 1}, 1, 0), pf([]int{0}, topFactor+1),
	} {
		checkNoProof(t, rows, p)
	}
	// A negative factor, times a negative n.
	checkNotScalable(t, rows, pf([]int{0}, -5), -1)
	checkNotScalable(t, rows, pf([]int{0, 1}, -1, -1), -3)
	for _, c := range proofCases() {
		for _, n := range []int{1, 2, 1000} {
			checkNotScalable(t, append(slices.Clone(c.rows), rw(0, 0, 2, 0)), c.p, n)
			checkNotScalable(t, append(slices.Clone(c.rows), make([]impl.Row, 41-len(c.rows))...), c.p, n)
		}
	}
}

// Products that would be valid factors, since what is beyond an int is cut off:
// either the factor or n is out of range.
func TestScaleProofOverflow(t *testing.T) {
	rows := fewRows()
	for _, c := range []struct{ great, small int }{
		{6148914691236517206, 3}, {-6148914691236517205, 3}, {-3689348814741910323, 5}, {1<<61 + 5, 8}, {1<<61 + 5, 1000},
		{1<<62 + 9, 4}, {math.MinInt + 7, 2}, {math.MinInt + 7, 1000}, {-1<<61 + 1, 8}, {-1<<62 + 500, 1000},
	} {
		if product := c.great * c.small; product < 1 || product > topFactor {
			t.Errorf("%d times %d is %d", c.great, c.small, product)
		}
		checkNotScalable(t, rows, pf([]int{0}, c.great), c.small)
		checkNotScalable(t, rows, pf([]int{0, 1}, 1, c.great), c.small)
		checkNotScalable(t, rows, pf([]int{0}, c.small), c.great)
		checkNotScalable(t, rows, pf([]int{0, 1}, c.small, c.small), c.great)
	}
}

func TestProofText(t *testing.T) {
	cases := []struct {
		p    impl.Proof
		want string
	}{
		{impl.Proof{}, ""},
		{pf([]int{}), ""},
		{pf([]int{0}, 1), "1x0"},
		{pf([]int{0, 1}, 5, 5), "5x0 5x1"},
		{pf([]int{0, 3, 4, 7}, 4, 19, 24, 9), "4x0 19x3 24x4 9x7"},
		{pf([]int{39}, topFactor), "1000000x39"},
		// What ProofOk refuses: five rows, other orders, other numbers.
		{pf([]int{0, 1, 2, 3, 4}, 6, 7, 8, 9, 10), "6x0 7x1 8x2 9x3 10x4"},
		{pf([]int{2, 2, 2}, 1, 2, 3), "1x2 2x2 3x2"},
		{pf([]int{9, 5, 0}, 3, 2, 1), "3x9 2x5 1x0"},
		{pf([]int{7}, 0), "0x7"},
		{pf([]int{-1}, 4), "4x-1"},
		{pf([]int{4}, -1), "-1x4"},
		{pf([]int{-12, -7}, -30, 20), "-30x-12 20x-7"},
		{pf([]int{40, 1000}, topFactor+1, 10*topFactor), "1000001x40 10000000x1000"},
		{pf([]int{math.MinInt, math.MaxInt}, math.MaxInt, math.MinInt), "9223372036854775807x-9223372036854775808 -9223372036854775808x9223372036854775807"},
		// The numbers of Factors and Rows differ.
		{pf([]int{0}), ""},
		{pf(nil, 1), ""},
		{pf([]int{0, 1}, 1), ""},
		{pf([]int{0}, 1, 1), ""},
		{pf([]int{0, 1, 2, 3}, 1, 1, 1), ""},
		{pf([]int{0, 1, 2}, 1, 1, 1, 1), ""},
	}
	for _, c := range cases {
		checkText(t, c.p, c.want)
		checkText(t, c.p, textByText(c.p))
	}
	long := pf(slices.Repeat([]int{12}, 3000), slices.Repeat([]int{7}, 3000)...)
	checkText(t, long, strings.Repeat("7x12 ", 2999)+"7x12")
	long.Rows = long.Rows[1:]
	checkText(t, long, "")
}

// balancedFours are the proofs with one to four of the rows that Chapter 16 takes
// from any four rows: their factors make the sums of A, B and C 0. The sum of D
// may be negative, 0 or positive.
func balancedFours(rows []impl.Row) []impl.Proof {
	var list []impl.Proof
	for i := range rows {
		visitThreesAt(rows, i+1, func(k int, m int, n int) {
			four := []int{i, k, m, n}
			var p impl.Proof
			sign := 0
			for at, index := range four {
				others := slices.Delete(slices.Clone(four), at, at+1)
				factor := detByText(rows[others[0]], rows[others[1]], rows[others[2]]) * (1 - at%2*2)
				if factor == 0 {
					continue
				}
				if sign == 0 {
					sign = max(min(factor, 1), -1)
				}
				p.Rows = append(p.Rows, index)
				p.Factors = append(p.Factors, sign*factor)
			}
			if sign != 0 && slices.Min(p.Factors) > 0 {
				list = append(list, p)
			}
		})
	}
	return list
}

// visitThreesAt calls visit for three ascending indices from first on.
func visitThreesAt(rows []impl.Row, first int, visit func(k int, m int, n int)) {
	for k := first; k < len(rows); k++ {
		for m := k + 1; m < len(rows); m++ {
			for n := m + 1; n < len(rows); n++ {
				visit(k, m, n)
			}
		}
	}
}

// namedRows are the rows that p names.
func namedRows(rows []impl.Row, p impl.Proof) []impl.Row {
	var named []impl.Row
	for _, k := range p.Rows {
		named = append(named, rows[k])
	}
	return named
}

// proofTally counts what was tried for promise 15.
type proofTally struct {
	proofs, others, fulfilling, contradicting int
	// ofRows counts the proofs by the numbers of their rows.
	ofRows map[int]int
}

func newTally() proofTally {
	return proofTally{ofRows: map[int]int{}}
}

// checkTally tests that there were enough proofs with each of these numbers of
// rows, and enough rows that some thrust fulfills.
func checkTally(t *testing.T, tally proofTally, ofRows ...int) {
	t.Helper()
	for _, n := range ofRows {
		if tally.ofRows[n] < 20 {
			t.Errorf("only %d proofs of %d rows were tried", tally.ofRows[n], n)
		}
	}
	if tally.contradicting < 50 || tally.proofs < 300 || tally.fulfilling < 300 {
		t.Errorf("only few proofs or thrusts were tried: %+v", tally)
	}
}

// checkPromise tests promise 15 for rows and a list of proofs: where one of them
// is a proof, each thrust breaks one of the rows that it names, and where a
// thrust fulfills all rows, none is a proof.
func checkPromise(t *testing.T, rows []impl.Row, proofs []impl.Proof, thrusts []impl.Thrust, tally *proofTally) {
	t.Helper()
	contradicts := false
	for _, p := range proofs {
		sums := sumsByText(t, rows, p)
		checkSumsOf(t, rows, p, true, sums, isProvedByText(sums))
		if !impl.IsProof(rows, p) {
			tally.others++
			continue
		}
		contradicts = true
		tally.proofs++
		tally.ofRows[len(p.Rows)]++
		named := namedRows(rows, p)
		for _, x := range thrusts {
			if impl.CountBroken(x, named) < 1 || impl.FulfillsAll(x, named) {
				t.Fatalf("%v fulfills all of %v, which contradict each other with the factors of %v", x, named, p)
			}
		}
	}
	for _, x := range thrusts {
		if !impl.FulfillsAll(x, rows) {
			continue
		}
		tally.fulfilling++
		if contradicts {
			t.Fatalf("%v fulfills all of %v, of which there is a proof", x, rows)
		}
	}
	if contradicts {
		tally.contradicting++
		if standsByText(rows) {
			t.Fatalf("there is a thrust for %v by elimination, but also a proof", rows)
		}
	}
}

// randomThrusts are valid thrusts of all sizes.
func randomThrusts(r *rand.Rand, n int) []impl.Thrust {
	var list []impl.Thrust
	for len(list) < n {
		size := []int{6, 100, 10000, topForce}[r.Intn(4)]
		x := th(r.Intn(size), r.Intn(2*size)-size, r.Intn(2*size)-size, 1+r.Intn(4))
		if isThrustByText(x) {
			list = append(list, x)
		}
	}
	return list
}

// Promise 15, for arches: those that fall have proofs, and those that stand have
// none.
func TestWhereThereIsAProofEveryThrustBreaksARow(t *testing.T) {
	r := rand.New(rand.NewSource(1515))
	stands, falls := newTally(), newTally()
	visitRanges(func(a impl.Arch, loads []impl.Load) {
		rows := impl.RowsOf(a, loads)
		if len(rows) == 0 {
			t.Fatalf("%v with %v has no rows", a, loads)
		}
		tally := &falls
		if standsByText(rows) {
			tally = &stands
		}
		thrusts := slices.Concat(validThrusts(), randomThrusts(r, 20), meetingThrusts(rows))
		before := tally.proofs
		checkPromise(t, rows, balancedFours(rows), thrusts, tally)
		if (tally.proofs > before) != (tally == &falls) {
			t.Fatalf("%v with %v has %d proofs, but it stands: %v", a, loads, tally.proofs-before, tally == &stands)
		}
	})
	if falls.contradicting < 20 || falls.proofs < 200 || falls.fulfilling > 0 || falls.ofRows[3] < 30 || falls.ofRows[4] < 100 {
		t.Errorf("only few proofs were tried: %+v", falls)
	}
	if stands.proofs > 0 || stands.others < 1000 || stands.fulfilling < 300 {
		t.Errorf("arches that stand: %+v", stands)
	}
}

// Promise 15, for random arches under random loads.
func TestProofsOfRandomArches(t *testing.T) {
	r := rand.New(rand.NewSource(151515))
	tally := newTally()
	for i := range 1200 {
		wide, high := 10, 12
		if i%2 == 0 {
			wide, high = 56, 40
		}
		a, loads := randomArch(r, wide, high)
		rows := impl.RowsOf(a, loads)
		if len(rows) == 0 {
			continue
		}
		thrusts := slices.Concat(randomThrusts(r, 30), meetingThrusts(rows))
		before := tally.proofs
		checkPromise(t, rows, balancedFours(rows), thrusts, &tally)
		if (tally.proofs > before) == standsByText(rows) {
			t.Fatalf("%v with %v has %d proofs, but it stands: %v", a, loads, tally.proofs-before, standsByText(rows))
		}
	}
	checkTally(t, tally, 4)
}

// randomRows are small rows, or ones at the ends of the ranges.
func randomRows(r *rand.Rand, n int) []impl.Row {
	var rows []impl.Row
	lever, bound := 1+r.Intn(3), 1+r.Intn(6)
	if r.Intn(9) == 0 {
		lever, bound = topLever, topBound
	}
	for range n {
		rows = append(rows, rw(r.Intn(2*lever+1)-lever, r.Intn(2*lever+1)-lever, r.Intn(3)-1, r.Intn(2*bound+1)-bound))
	}
	return rows
}

// randomProof are some of n rows with small factors.
func randomProof(r *rand.Rand, n int) impl.Proof {
	at := r.Perm(n)[:1+r.Intn(min(4, n))]
	slices.Sort(at)
	p := impl.Proof{Rows: at}
	for range at {
		p.Factors = append(p.Factors, 1+r.Intn(3))
	}
	return p
}

// Promise 15, for rows that are not those of an arch, with the proofs that can be
// found and with any other factors.
func TestProofsOfAnyRows(t *testing.T) {
	r := rand.New(rand.NewSource(51))
	tally, named := newTally(), newTally()
	for range 4000 {
		rows := randomRows(r, 1+r.Intn(8))
		thrusts := slices.Concat(randomThrusts(r, 25), meetingThrusts(rows))
		checkPromise(t, rows, balancedFours(rows), thrusts, &tally)
		var proofs []impl.Proof
		for range 60 {
			proofs = append(proofs, randomProof(r, len(rows)))
		}
		checkPromise(t, rows, proofs, thrusts, &named)
	}
	checkTally(t, tally, 2, 3, 4)
	checkTally(t, named, 1, 2, 3)
}

// fulfilledRows are rows that x fulfills, most of them as nearly as can be.
func fulfilledRows(r *rand.Rand, x impl.Thrust, n int) []impl.Row {
	var rows []impl.Row
	for len(rows) < n {
		one := randomRows(r, 1)[0]
		least := quotient(one.A*x.H+one.B*x.V+one.C*x.M, x.Den)
		// Rounded up.
		d := new(big.Int).Neg(new(big.Int).Div(new(big.Int).Neg(least.Num()), least.Denom()))
		if one.D = int(d.Int64()) + r.Intn(4)/3; isRowByText(one) {
			rows = append(rows, one)
		}
	}
	return rows
}

// Promise 15, the other way around: of rows that some thrust fulfills there is no
// proof.
func TestNoProofWhereAThrustFulfillsAllRows(t *testing.T) {
	r := rand.New(rand.NewSource(115))
	tally, zeros := newTally(), 0
	for range 2500 {
		x := th(r.Intn(20), r.Intn(41)-20, r.Intn(41)-20, 1+r.Intn(5))
		if !isThrustByText(x) {
			continue
		}
		rows := fulfilledRows(r, x, 1+r.Intn(9))
		proofs := balancedFours(rows)
		for range 10 {
			proofs = append(proofs, randomProof(r, len(rows)))
		}
		checkPromise(t, rows, proofs, []impl.Thrust{x}, &tally)
		for _, p := range proofs {
			if sumsByText(t, rows, p) == [4]int{} {
				zeros++
			}
		}
	}
	if tally.proofs > 0 || tally.fulfilling < 1000 || tally.others < 20000 || zeros < 100 {
		t.Errorf("%d sums were 0 of %+v", zeros, tally)
	}
}

func TestSameProofAtEveryCall(t *testing.T) {
	for _, c := range proofCases() {
		for range 60 {
			checkSumsOf(t, c.rows, c.p, true, c.sums, c.is)
			checkScaled(t, c.rows, c.p, 1, c.p, true)
			checkText(t, c.p, textByText(c.p))
		}
	}
}

func TestSameProofFromManyGoroutines(t *testing.T) {
	cases := proofCases()
	var joined sync.WaitGroup
	for i := range 16 {
		joined.Add(1)
		go func() {
			defer joined.Done()
			for n := range 10 * len(cases) {
				c := cases[(i+n)%len(cases)]
				a, b, d, e := impl.SumOfRows(c.rows, c.p)
				scaled, ok := impl.ScaleProof(c.rows, c.p, 1)
				if [...]int{a, b, d, e} != c.sums || impl.IsProof(c.rows, c.p) != c.is || !ok || !sameProof(scaled, c.p) {
					t.Errorf("%s: another sum, or another multiple", c.name)
				}
			}
		}()
	}
	joined.Wait()
}

// spoilInts overwrites the memory of a list, its spare capacity too.
func spoilInts(list []int) {
	all := list[:cap(list)]
	for i := range all {
		all[i] = -9
	}
}

func TestScaledProofsShareNoMemory(t *testing.T) {
	for _, c := range proofCases() {
		// Room for more behind the lists of the argument.
		given := pf(append(slices.Grow(c.p.Rows[:0:0], 9), c.p.Rows...), append(slices.Grow(c.p.Factors[:0:0], 9), c.p.Factors...)...)
		rows := slices.Clone(c.rows)
		first, ok := impl.ScaleProof(rows, given, 1)
		second, again := impl.ScaleProof(rows, given, 1)
		if !ok || !again || !sameProof(first, c.p) || !sameProof(second, c.p) {
			t.Fatalf("%s: ScaleProof gave %v and %v", c.name, first, second)
		}
		spoilInts(first.Rows)
		if !slices.Equal(first.Factors, c.p.Factors) {
			t.Errorf("%s: a change of Rows changed Factors to %v", c.name, first.Factors)
		}
		third, _ := impl.ScaleProof(rows, given, 1)
		spoilInts(third.Factors)
		if !slices.Equal(third.Rows, c.p.Rows) {
			t.Errorf("%s: a change of Factors changed Rows to %v", c.name, third.Rows)
		}
		if !sameProof(given, c.p) || !sameProof(second, c.p) || !slices.Equal(rows, c.rows) {
			t.Errorf("%s: a change of a result changed the argument to %v or another result to %v", c.name, given, second)
		}
		spoilInts(given.Rows)
		spoilInts(given.Factors)
		spoilRows(rows)
		if !sameProof(second, c.p) {
			t.Errorf("%s: a change of the arguments changed the result to %v", c.name, second)
		}
	}
}

// What is in the spare capacity must stay as well.
func TestProofArgumentsUnchanged(t *testing.T) {
	proofs := []impl.Proof{{}, pf([]int{0}), pf([]int{1, 0}, 1, 1), pf([]int{0, 1, 2, 3, 4}, 5, 4, 3, 2, 1), pf([]int{-1, 99}, 0, topFactor+1), pf([]int{0, 1}, 2, 2)}
	lists := [][]impl.Row{nil, invalidRows(), make([]impl.Row, 41)}
	for _, c := range proofCases() {
		proofs, lists = append(proofs, c.p), append(lists, c.rows)
	}
	for _, list := range lists {
		rows := append(slices.Clone(list), rw(0, 0, 0, -7), lastRow())
		before := slices.Clone(rows)
		for _, p := range proofs {
			full := pf(append(slices.Clone(p.Rows), 38, 39), append(slices.Clone(p.Factors), 77, 78)...)
			fullBefore := copyOfProof(full)
			part := pf(full.Rows[:len(p.Rows)], full.Factors[:len(p.Factors)]...)
			impl.ProofOk(rows[:len(list)], part)
			impl.SumOfRows(rows[:len(list)], part)
			impl.IsProof(rows[:len(list)], part)
			for _, n := range []int{-1, 0, 1, 2, 1000, 1001} {
				scaled, _ := impl.ScaleProof(rows[:len(list)], part, n)
				spoilInts(scaled.Rows)
				spoilInts(scaled.Factors)
			}
			impl.ProofText(part)
			if !sameProof(full, fullBefore) || !slices.Equal(rows, before) {
				t.Fatalf("%v and %v became %v and %v", before, fullBefore, rows, full)
			}
		}
	}
}
