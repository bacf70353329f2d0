package tests

import (
	"math"
	"slices"
	"testing"

	"loop.example/g03301/impl"
)

// ld is a load of the weight w on stone k, at x.
func ld(k int, w int, x int) impl.Load {
	return impl.Load{Stone: k, Weight: w, X: x}
}

// loadCase is an arch under loads, with WeightLeft and MomentLeft of each joint.
type loadCase struct {
	name    string
	a       impl.Arch
	loads   []impl.Load
	weights []int
	moments []int
}

func loadCases() []loadCase {
	two, seven, sample := upright(3, 0, 4), upright(8, -20, 5), archCases()[4].a
	return []loadCase{
		{"two stones, nil", two, nil, []int{0, 96, 192}, []int{0, 192, 768}},
		{"two stones, no loads", two, []impl.Load{}, []int{0, 96, 192}, []int{0, 192, 768}},
		{"seven stones, nil", seven, nil, []int{0, 120, 240, 360, 480, 600, 720, 840}, []int{0, -2100, -3600, -4500, -4800, -4500, -3600, -2100}},
		{"sample, nil", sample, nil, []int{0, 138, 306, 444}, []int{0, 246, 1590, 3552}},
		{"left", two, []impl.Load{ld(0, 10, 1)}, []int{0, 106, 202}, []int{0, 202, 778}},
		{"right", two, []impl.Load{ld(1, 10, 5)}, []int{0, 96, 202}, []int{0, 192, 818}},
		{"negative X", two, []impl.Load{ld(1, 7, -3)}, []int{0, 96, 199}, []int{0, 192, 747}},
		{"X 0", two, []impl.Load{ld(0, 50, 0)}, []int{0, 146, 242}, []int{0, 192, 768}},
		{"X 60, beside the stone", two, []impl.Load{ld(0, 1, 60)}, []int{0, 97, 193}, []int{0, 252, 828}},
		{"X -60, beside the stone", two, []impl.Load{ld(0, 1, -60)}, []int{0, 97, 193}, []int{0, 132, 708}},
		{"without weight", two, []impl.Load{ld(0, 0, 60), ld(1, 0, -60)}, []int{0, 96, 192}, []int{0, 192, 768}},
		{"zero Load", two, []impl.Load{{}}, []int{0, 96, 192}, []int{0, 192, 768}},
		{"the greatest Weight", two, []impl.Load{ld(1, 10000, 60)}, []int{0, 96, 10192}, []int{0, 192, 600768}},
		{"two on one stone", two, []impl.Load{ld(0, 10, 1), ld(0, 5, 3)}, []int{0, 111, 207}, []int{0, 217, 793}},
		{"the same twice", two, []impl.Load{ld(1, 10, 6), ld(1, 10, 6)}, []int{0, 96, 212}, []int{0, 192, 888}},
		{"in no order", sample, []impl.Load{ld(2, 3, 14), ld(0, 20, 1), ld(1, 100, 8), ld(0, 2, -1)}, []int{0, 160, 428, 569}, []int{0, 264, 2408, 4412}},
		{"six on seven stones", seven, []impl.Load{ld(6, 1, 13), ld(4, 100, 2), ld(4, 10, -2), ld(0, 1000, -17), ld(3, 0, 1), ld(1, 7, -12)}, []int{0, 1120, 1247, 1367, 1487, 1717, 1837, 1958}, []int{0, -19100, -20684, -21584, -21884, -21404, -20504, -18991}},
		{"six of the greatest on one stone", two, slices.Repeat([]impl.Load{ld(0, 10000, -60)}, 6), []int{0, 60096, 60192}, []int{0, -3599808, -3599232}},
	}
}

// wrongJoints are numbers of which an arch with n joints has none.
func wrongJoints(n int) []int {
	return []int{-1, -2, -n, n, n + 1, n + 2, 100, -1 << 32, 1 << 32, math.MinInt, math.MinInt + 1, math.MaxInt - 1, math.MaxInt}
}

type namedLoads struct {
	name  string
	loads []impl.Load
}

// wrongWeights are out of the range of a Weight.
func wrongWeights() []int {
	return []int{-1, -2, -10000, 10001, 10002, 100000, 1 << 32, -1 << 32, 1 << 61, math.MinInt, math.MinInt + 1, math.MaxInt - 1, math.MaxInt}
}

// wrongLoads are not valid on an arch of n stones, each by one fault.
func wrongLoads(n int) []impl.Load {
	var list []impl.Load
	for _, k := range []int{-1, -2, -n, n, n + 1, 100, 1 << 32, -1 << 32, math.MinInt, math.MinInt + 1, math.MaxInt - 1, math.MaxInt} {
		list = append(list, ld(k, 10, 1), ld(k, 0, 0))
	}
	for _, w := range wrongWeights() {
		list = append(list, ld(0, w, 1), ld(n-1, w, 0))
	}
	for _, x := range invalidPlaces() {
		list = append(list, ld(0, 10, x), ld(n-1, 0, x))
	}
	return list
}

// invalidLoads are not valid on an arch of n stones: a wrong load alone and
// between good ones, or too many good ones.
func invalidLoads(n int) []namedLoads {
	list := []namedLoads{
		{"7 loads", slices.Repeat([]impl.Load{ld(0, 10, 1)}, 7)},
		{"7 loads without weight", make([]impl.Load, 7)},
		{"20 loads", make([]impl.Load, 20)},
	}
	for _, wrong := range wrongLoads(n) {
		list = append(list, namedLoads{"a wrong load alone", []impl.Load{wrong}})
		for at := range 6 {
			loads := slices.Repeat([]impl.Load{ld(0, 10, 1)}, 6)
			loads[at] = wrong
			list = append(list, namedLoads{"a wrong load among good ones", loads})
		}
	}
	return list
}

// areLoadsByText follows the sentence of the document.
func areLoadsByText(a impl.Arch, loads []impl.Load) bool {
	if !isArchByText(a.Joints) || len(loads) > 6 {
		return false
	}
	for _, l := range loads {
		onStone := 0 <= l.Stone && l.Stone <= len(a.Joints)-2
		if !onStone || l.Weight < 0 || l.Weight > 10000 || l.X < -60 || l.X > 60 {
			return false
		}
	}
	return true
}

func TestMaxLoads(t *testing.T) {
	if impl.MaxLoads != 6 {
		t.Errorf("MaxLoads is %d, want 6", impl.MaxLoads)
	}
}

func TestLoadsOk(t *testing.T) {
	for _, c := range loadCases() {
		if !impl.LoadsOk(c.a, c.loads) {
			t.Errorf("%s: LoadsOk(%v, %v) is false", c.name, c.a, c.loads)
		}
	}
	for _, a := range validArches() {
		for _, c := range invalidLoads(len(a.Joints) - 1) {
			if impl.LoadsOk(a, c.loads) {
				t.Errorf("%s: LoadsOk(%v, %v) is true", c.name, a, c.loads)
			}
		}
	}
}

func TestLoadsOkLimits(t *testing.T) {
	for _, a := range validArches() {
		last := len(a.Joints) - 2
		for _, l := range []impl.Load{{}, ld(0, 0, -60), ld(0, 10000, 60), ld(last, 0, 60), ld(last, 10000, -60), ld(last, 1, 0)} {
			for n := range 10 {
				loads := slices.Repeat([]impl.Load{l}, n)
				if got := impl.LoadsOk(a, loads); got != (n <= 6) {
					t.Errorf("LoadsOk(%v) of %d times %v = %v", a, n, l, got)
				}
			}
		}
	}
}

// Every load of these numbers, alone and after a good one.
func TestLoadsOkEveryLoad(t *testing.T) {
	stones := []int{math.MinInt, -8, -1, 0, 1, 2, 3, 6, 7, 8, math.MaxInt}
	weights := []int{math.MinInt, -10001, -10000, -1, 0, 1, 9999, 10000, 10001, math.MaxInt}
	places := []int{math.MinInt, -61, -60, -59, 0, 59, 60, 61, math.MaxInt}
	good, bad := 0, 0
	for _, a := range []impl.Arch{upright(3, 0, 4), archCases()[4].a, upright(8, -20, 5), upright(9, 0, 4), {}} {
		for _, k := range stones {
			for _, w := range weights {
				for _, x := range places {
					loads := []impl.Load{ld(0, 1, 1), ld(k, w, x)}
					want := areLoadsByText(a, loads)
					if want {
						good++
					} else {
						bad++
					}
					if impl.LoadsOk(a, loads) != want || impl.LoadsOk(a, loads[1:]) != want {
						t.Fatalf("LoadsOk(%v, %v) is not %v", a, loads, want)
					}
				}
			}
		}
	}
	if good == 0 || bad == 0 {
		t.Errorf("only loads of one kind were tried: %d and %d", good, bad)
	}
}

func TestLoadsOfInvalidArches(t *testing.T) {
	for _, c := range invalidArches() {
		for _, loads := range [][]impl.Load{nil, {}, {{}}, {ld(0, 10, 1)}, {ld(1, 10, 1), ld(0, 5, 2)}} {
			if impl.LoadsOk(c.a, loads) {
				t.Errorf("%s: LoadsOk(%v, %v) is true", c.name, c.a, loads)
			}
			checkNothingLeft(t, c.name, c.a, loads)
		}
	}
}

func TestLoadsInvalid(t *testing.T) {
	for _, a := range validArches() {
		for _, c := range invalidLoads(len(a.Joints) - 1) {
			checkNothingLeft(t, c.name, a, c.loads)
		}
	}
}

// checkNothingLeft tests that an arch or loads that are not valid weigh nothing.
func checkNothingLeft(t *testing.T, name string, a impl.Arch, loads []impl.Load) {
	t.Helper()
	for _, k := range []int{math.MinInt, -1, 0, 1, 2, 3, 7, 8, math.MaxInt} {
		if impl.WeightLeft(a, loads, k) != 0 || impl.MomentLeft(a, loads, k) != 0 {
			t.Errorf("%s: a sum of %v and %v to the left of joint %d is not 0", name, a, loads, k)
		}
	}
	if got := impl.TotalOf(a, loads); got != 0 {
		t.Errorf("%s: TotalOf(%v, %v) = %d, want 0", name, a, loads, got)
	}
}

func TestSumsLeft(t *testing.T) {
	for _, c := range loadCases() {
		for k := range c.weights {
			if got := impl.WeightLeft(c.a, c.loads, k); got != c.weights[k] {
				t.Errorf("%s: WeightLeft(%v, %v, %d) = %d, want %d", c.name, c.a, c.loads, k, got, c.weights[k])
			}
			if got := impl.MomentLeft(c.a, c.loads, k); got != c.moments[k] {
				t.Errorf("%s: MomentLeft(%v, %v, %d) = %d, want %d", c.name, c.a, c.loads, k, got, c.moments[k])
			}
		}
		if got, want := impl.TotalOf(c.a, c.loads), c.weights[len(c.weights)-1]; got != want {
			t.Errorf("%s: TotalOf(%v, %v) = %d, want %d", c.name, c.a, c.loads, got, want)
		}
	}
}

func TestSumsLeftOfNoJoint(t *testing.T) {
	for _, c := range loadCases() {
		for _, k := range wrongJoints(len(c.a.Joints)) {
			if got := impl.WeightLeft(c.a, c.loads, k); got != 0 {
				t.Errorf("%s: WeightLeft(%v, %v, %d) = %d, want 0", c.name, c.a, c.loads, k, got)
			}
			if got := impl.MomentLeft(c.a, c.loads, k); got != 0 {
				t.Errorf("%s: MomentLeft(%v, %v, %d) = %d, want 0", c.name, c.a, c.loads, k, got)
			}
		}
	}
}

// checkSums adds the stones of a and the loads one after the other, from left
// to right: promise 7. The weights of stones are those of their triangles.
func checkSums(t *testing.T, a impl.Arch, loads []impl.Load) {
	t.Helper()
	weight, moment := 0, 0
	for k := range a.Joints {
		if got := impl.WeightLeft(a, loads, k); got != weight {
			t.Fatalf("WeightLeft(%v, %v, %d) = %d, want %d", a, loads, k, got, weight)
		}
		if got := impl.MomentLeft(a, loads, k); got != moment {
			t.Fatalf("MomentLeft(%v, %v, %d) = %d, want %d", a, loads, k, got, moment)
		}
		if k == len(a.Joints)-1 {
			break
		}
		l, r := a.Joints[k], a.Joints[k+1]
		area2, stoneMoment, _ := fanWeights(impl.Stone{Corners: []impl.Point{l.Inner, r.Inner, r.Outer, l.Outer}})
		weight += 3 * area2
		moment += stoneMoment
		for _, load := range loads {
			if load.Stone == k {
				weight += load.Weight
				moment += load.Weight * load.X
			}
		}
	}
	if got := impl.TotalOf(a, loads); got != weight {
		t.Fatalf("TotalOf(%v, %v) = %d, want %d", a, loads, got, weight)
	}
}

// someLoads are valid loads on an arch of n stones: on each stone alone, on
// two stones, and as many as there may be, in no order.
func someLoads(n int) [][]impl.Load {
	list := [][]impl.Load{nil, {}}
	for k := range n {
		for _, x := range validPlaces() {
			list = append(list, []impl.Load{ld(k, 0, x)}, []impl.Load{ld(k, 1, x)}, []impl.Load{ld(k, 10000, x)})
		}
		for m := range n {
			list = append(list, []impl.Load{ld(k, 17, 5), ld(m, 400, -23)})
		}
		var many []impl.Load
		for i := range 6 {
			many = append(many, ld((k+i*5)%n, 1+i*i*300, 11*i-30))
		}
		list = append(list, many)
	}
	return list
}

// Promise 7.
func TestWeightsAndMomentsAddUp(t *testing.T) {
	for _, a := range validArches() {
		for _, loads := range someLoads(len(a.Joints) - 1) {
			checkSums(t, a, loads)
		}
	}
	for _, c := range loadCases() {
		checkSums(t, c.a, c.loads)
	}
}

func TestWeightsAndMomentsOfSmallArches(t *testing.T) {
	found := 0
	everyList(6, func(list []impl.Point) {
		a := archOf(
			impl.Joint{Inner: list[0], Outer: list[1]},
			impl.Joint{Inner: list[2], Outer: list[3]},
			impl.Joint{Inner: list[4], Outer: list[5]},
		)
		if !impl.ArchOk(a) {
			return
		}
		found++
		checkSums(t, a, nil)
		checkSums(t, a, []impl.Load{ld(1, 4, -3), ld(0, 9, 2)})
	})
	if found == 0 {
		t.Error("no arch was tried")
	}
}

// The order of the loads does not matter, and a load may be cut into two.
func TestLoadsTogether(t *testing.T) {
	a := archCases()[4].a
	loads := []impl.Load{ld(2, 3, 14), ld(0, 20, 1), ld(1, 100, 8), ld(0, 2, -1), ld(1, 0, 9)}
	cut := append(slices.Clone(loads), ld(1, 40, 8))
	cut[2].Weight = 60
	for range loads {
		loads = append(loads[1:], loads[0])
		cut = append(cut[1:], cut[0])
		for k, want := range []int{0, 160, 428, 569} {
			if impl.WeightLeft(a, loads, k) != want || impl.WeightLeft(a, cut, k) != want {
				t.Errorf("the weight of %v or of %v to the left of joint %d is not %d", loads, cut, k, want)
			}
		}
		for k, want := range []int{0, 264, 2408, 4412} {
			if impl.MomentLeft(a, loads, k) != want || impl.MomentLeft(a, cut, k) != want {
				t.Errorf("the moment of %v or of %v to the left of joint %d is not %d", loads, cut, k, want)
			}
		}
	}
}

func TestScaleLoads(t *testing.T) {
	cases := []struct {
		name  string
		loads []impl.Load
		n     int
		want  []impl.Load
	}{
		{"3 times", []impl.Load{ld(0, 10, 1), ld(1, 7, -2)}, 3, []impl.Load{ld(0, 30, 1), ld(1, 21, -2)}},
		{"0 times", []impl.Load{ld(0, 10, 1), ld(1, 10000, -2)}, 0, []impl.Load{ld(0, 0, 1), ld(1, 0, -2)}},
		{"once", []impl.Load{ld(0, 10, 1), ld(1, 10000, -2)}, 1, []impl.Load{ld(0, 10, 1), ld(1, 10000, -2)}},
		{"1000 times", []impl.Load{ld(2, 10, 1), ld(1, 0, -2)}, 1000, []impl.Load{ld(2, 10000, 1), ld(1, 0, -2)}},
		{"the greatest product", []impl.Load{ld(3, 2500, 9)}, 4, []impl.Load{ld(3, 10000, 9)}},
		{"twice half of the greatest", []impl.Load{ld(0, 5000, 1)}, 2, []impl.Load{ld(0, 10000, 1)}},
		{"no weight", []impl.Load{ld(0, 0, 1)}, 7, []impl.Load{ld(0, 0, 1)}},
		{"6 loads", slices.Repeat([]impl.Load{ld(4, 6, 5)}, 6), 2, slices.Repeat([]impl.Load{ld(4, 12, 5)}, 6)},
		{"Stone out of range", []impl.Load{ld(-1, 2, 1), ld(7, 3, 1), ld(math.MinInt, 4, 1), ld(math.MaxInt, 5, 1)}, 2, []impl.Load{ld(-1, 4, 1), ld(7, 6, 1), ld(math.MinInt, 8, 1), ld(math.MaxInt, 10, 1)}},
		{"X out of range", []impl.Load{ld(0, 2, -61), ld(0, 3, 61), ld(0, 4, math.MinInt), ld(0, 5, math.MaxInt)}, 2, []impl.Load{ld(0, 4, -61), ld(0, 6, 61), ld(0, 8, math.MinInt), ld(0, 10, math.MaxInt)}},
	}
	for _, c := range cases {
		got, ok := impl.ScaleLoads(c.loads, c.n)
		if !ok || !slices.Equal(got, c.want) {
			t.Errorf("%s: ScaleLoads(%v, %d) = %v, %v, want %v", c.name, c.loads, c.n, got, ok, c.want)
		}
	}
}

// wrongTimes are out of the range of the n of ScaleLoads.
func wrongTimes() []int {
	return []int{-1, -2, -1000, 1001, 1002, 100000, 1 << 32, -1 << 32, 1 << 61, math.MinInt, math.MinInt + 1, math.MaxInt - 1, math.MaxInt}
}

func checkNotScaled(t *testing.T, loads []impl.Load, n int) {
	t.Helper()
	if got, ok := impl.ScaleLoads(loads, n); ok || len(got) != 0 {
		t.Errorf("ScaleLoads(%v, %d) = %v, %v, want nil and false", loads, n, got, ok)
	}
}

func TestScaleLoadsInvalid(t *testing.T) {
	for _, n := range wrongTimes() {
		for _, loads := range [][]impl.Load{nil, {}, {{}}, {ld(0, 1, 1)}, {ld(0, 8, 1)}, {ld(0, 10000, 1)}} {
			checkNotScaled(t, loads, n)
		}
	}
	for _, n := range []int{0, 1, 2, 1000} {
		checkNotScaled(t, make([]impl.Load, 7), n)
		checkNotScaled(t, make([]impl.Load, 20), n)
		for _, w := range wrongWeights() {
			checkNotScaled(t, []impl.Load{ld(0, w, 1)}, n)
			checkNotScaled(t, []impl.Load{ld(0, w, 1), ld(1, 2, 2), ld(1, 1, 2)}, n)
			checkNotScaled(t, []impl.Load{ld(0, 1, 1), ld(1, 2, 2), ld(1, w, 2)}, n)
		}
	}
	for _, c := range []struct{ w, n int }{{5001, 2}, {10000, 2}, {11, 1000}, {10000, 1000}, {2501, 4}, {11, 910}, {101, 100}} {
		checkNotScaled(t, []impl.Load{ld(0, c.w, 1)}, c.n)
		checkNotScaled(t, []impl.Load{ld(0, c.w, 1), ld(0, 1, 1)}, c.n)
		checkNotScaled(t, []impl.Load{ld(0, 1, 1), ld(0, c.w, 1)}, c.n)
	}
}

func TestScaleNoLoads(t *testing.T) {
	for _, n := range []int{0, 1, 2, 999, 1000} {
		for _, loads := range [][]impl.Load{nil, {}} {
			if got, ok := impl.ScaleLoads(loads, n); !ok || len(got) != 0 {
				t.Errorf("ScaleLoads of no loads with %d = %v, %v, want no loads and true", n, got, ok)
			}
		}
	}
}

// Each n with the weights around the greatest one that it suits.
func TestScaleLoadsEveryTimes(t *testing.T) {
	for n := -3; n <= 1003; n++ {
		for _, w := range []int{-1, 0, 1, 2, 10, 9999, 10000, 10001, 10000/max(n, 1) - 1, 10000 / max(n, 1), 10000/max(n, 1) + 1} {
			loads := []impl.Load{ld(3, w, -7), ld(1, 1, 2)}
			got, ok := impl.ScaleLoads(loads, n)
			if n < 0 || n > 1000 || w < 0 || w > 10000 || n*w > 10000 {
				if ok || len(got) != 0 {
					t.Fatalf("ScaleLoads(%v, %d) = %v, %v, want nil and false", loads, n, got, ok)
				}
			} else if !ok || !slices.Equal(got, []impl.Load{ld(3, n*w, -7), ld(1, n, 2)}) {
				t.Fatalf("ScaleLoads(%v, %d) = %v, %v", loads, n, got, ok)
			}
		}
	}
}

// Loads that are scaled add to the weights and the moments as often.
func TestScaledLoadsAddUp(t *testing.T) {
	a := archCases()[4].a
	loads := []impl.Load{ld(2, 3, 14), ld(0, 20, 1), ld(1, 100, 8), ld(0, 2, -1)}
	for _, n := range []int{0, 1, 2, 50, 100} {
		scaled, ok := impl.ScaleLoads(loads, n)
		if !ok || !impl.LoadsOk(a, scaled) {
			t.Fatalf("ScaleLoads(%v, %d) = %v, %v", loads, n, scaled, ok)
		}
		for k := range a.Joints {
			stones := impl.WeightLeft(a, nil, k)
			if got, want := impl.WeightLeft(a, scaled, k)-stones, n*(impl.WeightLeft(a, loads, k)-stones); got != want {
				t.Errorf("%d times the loads weigh %d to the left of joint %d, want %d", n, got, k, want)
			}
			stones = impl.MomentLeft(a, nil, k)
			if got, want := impl.MomentLeft(a, scaled, k)-stones, n*(impl.MomentLeft(a, loads, k)-stones); got != want {
				t.Errorf("%d times the loads have the moment %d to the left of joint %d, want %d", n, got, k, want)
			}
		}
	}
}

// spoilLoads overwrites the memory of a result, its spare capacity too.
func spoilLoads(loads []impl.Load) {
	all := loads[:cap(loads)]
	for i := range all {
		all[i] = ld(5, 55, 5)
	}
}

// checkKeepsArguments calls use with the sample of three stones and with loads
// that are valid and that are not, and tests that their memory stays as it was.
func checkKeepsArguments(t *testing.T, use func(a impl.Arch, loads []impl.Load)) {
	t.Helper()
	a := archCases()[4].a
	lists := someLoads(3)
	for _, c := range invalidLoads(3) {
		lists = append(lists, c.loads)
	}
	for _, loads := range lists {
		// What is in the spare capacity must stay as well.
		full := append(slices.Clone(loads), ld(2, 9, 9), ld(1, 8, 8))
		before := slices.Clone(full)
		joints := append(slices.Clone(a.Joints), jt(20, 0, 22, 4), jt(30, 0, 32, 4))
		jointsBefore := slices.Clone(joints)
		use(impl.Arch{Joints: joints[:len(a.Joints)]}, full[:len(loads)])
		if !slices.Equal(full, before) {
			t.Errorf("the loads %v became %v", before, full)
		}
		if !slices.Equal(joints, jointsBefore) {
			t.Errorf("the joints %v became %v", jointsBefore, joints)
		}
	}
}

func TestLoadArgumentsUnchanged(t *testing.T) {
	checkKeepsArguments(t, func(a impl.Arch, loads []impl.Load) {
		impl.LoadsOk(a, loads)
		impl.TotalOf(a, loads)
		for k := -1; k <= 4; k++ {
			impl.WeightLeft(a, loads, k)
			impl.MomentLeft(a, loads, k)
		}
		for _, n := range []int{-1, 0, 1, 2, 1000, 1001} {
			scaled, _ := impl.ScaleLoads(loads, n)
			spoilLoads(scaled)
		}
	})
}

func TestLoadResultsShareNoMemory(t *testing.T) {
	loads := []impl.Load{ld(0, 10, 1), ld(1, 7, -2)}
	for _, n := range []int{0, 1, 3} {
		first, _ := impl.ScaleLoads(loads, n)
		second, _ := impl.ScaleLoads(loads, n)
		want := slices.Clone(second)
		spoilLoads(first)
		third, _ := impl.ScaleLoads(loads, n)
		if !slices.Equal(second, want) || !slices.Equal(third, want) {
			t.Errorf("a change of one result of ScaleLoads(%v, %d) changed another one", loads, n)
		}
	}
	scaled, _ := impl.ScaleLoads(loads, 2)
	want := slices.Clone(scaled)
	loads[0] = ld(9, 9, 9)
	if !slices.Equal(scaled, want) {
		t.Errorf("a change of the loads changed a result to %v", scaled)
	}
}
