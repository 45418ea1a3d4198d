package tests

import (
	"math"
	"math/big"
	"math/rand"
	"slices"
	"testing"

	"loop.example/g01064/impl"
)

// shapeCase is a shape with how far its stakes shall be apart.
type shapeCase struct {
	levels    []int64
	low, high int64
}

// someShapes returns ordinary shapes, those at all limits, and drawn ones, of which most have plans with ties among them.
func someShapes() []shapeCase {
	shapes := []shapeCase{
		{[]int64{600}, 25, 40}, {[]int64{600, 700}, 25, 40}, {[]int64{600, 1200}, 25, 40}, {[]int64{600, 1201}, 25, 40}, {[]int64{600, 2000}, 25, 40}, {[]int64{1}, 1, 200}, {[]int64{5000}, 1, 200},
		{[]int64{300, 360, 420}, 25, 30}, {[]int64{300, 420, 300, 420}, 25, 30}, {[]int64{60, 120, 260}, 10, 20}, {slices.Repeat([]int64{600}, 12), 25, 40},
		{[]int64{600, 650, 700, 800, 900, 1000, 1100, 1200, 1100, 1000, 800, 600}, 25, 30}, {[]int64{1, 5000}, 1, 200}, {[]int64{5000, 1}, 1, 200}, {[]int64{10, 10}, 3, 3}, {[]int64{600, 1}, 25, 40},
	}
	source := rand.New(rand.NewSource(8))
	for i := range 900 {
		around := 100 + source.Int63n(1500)
		levels := []int64{around}
		for range source.Intn(4 + 8*(i%8/7)) {
			around = min(5000, max(1, around+source.Int63n(around/2+2)-around/4))
			levels = append(levels, around)
		}
		low := 10 + source.Int63n(40)
		shapes = append(shapes, shapeCase{levels, low, low + source.Int63n(low/3+1)})
	}
	for range 300 {
		var levels []int64
		for range 1 + source.Intn(4) {
			levels = append(levels, 1+source.Int63n(5000))
		}
		low := 1 + source.Int63n(200)
		shapes = append(shapes, shapeCase{levels, low, low + source.Int63n(201-low)})
	}
	return shapes
}

// noShapes returns levels that are no shape.
func noShapes() [][]int64 {
	return [][]int64{
		nil, {}, {0}, {-1}, {-600}, {5001}, {5002}, {math.MinInt64}, {math.MaxInt64}, {600, 0}, {0, 600}, {600, 5001, 700}, {600, 700, -5},
		slices.Repeat([]int64{600}, 13), slices.Repeat([]int64{600}, 200), slices.Repeat([]int64{0}, 13),
	}
}

// noApart returns pairs of low and high that are out of range.
func noApart() [][2]int64 {
	return [][2]int64{
		{0, 40}, {-1, 40}, {math.MinInt64, 40}, {0, 0}, {25, 24}, {25, 0}, {25, -25}, {25, 201}, {200, 201}, {201, 201}, {201, 200}, {201, 202}, {40, 25},
		{25, math.MaxInt64}, {25, math.MinInt64}, {math.MaxInt64, math.MaxInt64}, {math.MinInt64, math.MinInt64}, {2, 1}, {200, 199},
	}
}

// goodBy returns the numbers of stakes that are low to high apart around a circumference.
func goodBy(circumference, low, high int64) []int64 {
	var good []int64
	for n := int64(3); n <= 60; n++ {
		apart := big.NewRat(circumference, n)
		if apart.Cmp(big.NewRat(low, 1)) >= 0 && apart.Cmp(big.NewRat(high, 1)) <= 0 {
			good = append(good, n)
		}
	}
	return good
}

func (s shapeCase) goodAtAll() [][]int64 {
	var good [][]int64
	for _, level := range s.levels {
		good = append(good, goodBy(level, s.low, s.high))
	}
	return good
}

func (s shapeCase) turned() shapeCase {
	var levels []int64
	for _, level := range slices.Backward(s.levels) {
		levels = append(levels, level)
	}
	return shapeCase{levels, s.low, s.high}
}

func apartBy(a, b int64) int64 {
	if a > b {
		return a - b
	}
	return b - a
}

// leastChanges returns the least sum of changes of the plans that begin with some numbers, and whether there is such a plan.
func leastChanges(good [][]int64, begin []int64) (int64, bool) {
	const never = math.MaxInt32
	var sums [61]int64
	for level, numbers := range good {
		var next [61]int64
		for n := range next {
			next[n] = never
		}
		for _, n := range numbers {
			if level < len(begin) && begin[level] != n {
				continue
			}
			if level == 0 {
				next[n] = 0
				continue
			}
			for below := max(3, n-6); below <= min(60, n+6); below++ {
				next[n] = min(next[n], sums[below]+apartBy(below, n))
			}
		}
		sums = next
	}
	least := slices.Min(sums[:])
	return least, least < never
}

// planBy finds the first one of the plans with the least sum: at each level it takes the least number with which that sum is still reached.
func planBy(good [][]int64) ([]int64, int64, bool) {
	least, found := leastChanges(good, nil)
	if !found {
		return nil, 0, false
	}
	var plan []int64
	for _, numbers := range good {
		for _, n := range numbers {
			if sum, ok := leastChanges(good, append(slices.Clone(plan), n)); ok && sum == least {
				plan = append(plan, n)
				break
			}
		}
	}
	return plan, least, true
}

// eachPlan calls visit with each plan and its changes, in the order in which they are compared number by number.
func eachPlan(good [][]int64, begin []int64, sum int64, visit func([]int64, int64)) {
	if len(begin) == len(good) {
		visit(begin, sum)
		return
	}
	for _, n := range good[len(begin)] {
		var change int64
		if len(begin) > 0 {
			change = apartBy(begin[len(begin)-1], n)
		}
		if change <= 6 {
			eachPlan(good, append(slices.Clone(begin), n), sum+change, visit)
		}
	}
}

// manyWays returns in how many ways a good number can be taken at each level; more than 2^30 are not counted.
func manyWays(good [][]int64) int {
	ways := 1
	for _, numbers := range good {
		ways = min(ways*len(numbers), 1<<30)
	}
	return ways
}

func TestShapeLimits(t *testing.T) {
	got := []int64{impl.MaxLevels, impl.MaxAround, impl.MaxApart, impl.MaxStep}
	if want := []int64{12, 5000, 200, 6}; !slices.Equal(got, want) {
		t.Errorf("the limits are %v, want %v", got, want)
	}
}

func TestValidShape(t *testing.T) {
	for _, s := range someShapes() {
		if !impl.ValidShape(s.levels) {
			t.Errorf("%v is a shape", s.levels)
		}
	}
	for _, levels := range noShapes() {
		if impl.ValidShape(levels) {
			t.Errorf("%v is no shape", levels)
		}
	}
	for count := range 30 {
		if got, want := impl.ValidShape(slices.Repeat([]int64{1}, count)), count >= 1 && count <= 12; got != want {
			t.Errorf("with %d levels: %v", count, got)
		}
	}
	for n := int64(-10); n <= 5100; n++ {
		want := n >= 1 && n <= 5000
		if impl.ValidShape([]int64{n}) != want || impl.ValidShape([]int64{n, 600}) != want || impl.ValidShape([]int64{600, 700, n}) != want {
			t.Errorf("with %d around: want %v", n, want)
		}
	}
}

func TestSpacingAt(t *testing.T) {
	for _, s := range someShapes()[:200] {
		for level, circumference := range s.levels {
			for stakes := int64(3); stakes <= 60; stakes++ {
				want := big.NewRat(circumference, stakes)
				got, code := impl.SpacingAt(s.levels, stakes, int64(level))
				if got.Num != want.Num().Int64() || got.Den != want.Denom().Int64() || code != impl.OK {
					t.Fatalf("SpacingAt(%v, %d, %d) = %v, %d, want %v", s.levels, stakes, level, got, code, want)
				}
			}
		}
	}
	cases := []struct {
		levels        []int64
		stakes, level int64
		want          impl.Fraction
	}{
		{[]int64{600, 700}, 20, 1, impl.Fraction{Num: 35, Den: 1}}, {[]int64{600, 700}, 20, 0, impl.Fraction{Num: 30, Den: 1}}, {[]int64{600, 700}, 25, 1, impl.Fraction{Num: 28, Den: 1}},
		{[]int64{1}, 3, 0, impl.Fraction{Num: 1, Den: 3}}, {[]int64{5000}, 60, 0, impl.Fraction{Num: 250, Den: 3}}, {[]int64{600, 1000}, 16, 1, impl.Fraction{Num: 125, Den: 2}}, {[]int64{7}, 7, 0, impl.Fraction{Num: 1, Den: 1}},
	}
	for _, c := range cases {
		if got, code := impl.SpacingAt(c.levels, c.stakes, c.level); got != c.want || code != impl.OK {
			t.Errorf("SpacingAt(%v, %d, %d) = %v, %d, want %v", c.levels, c.stakes, c.level, got, code, c.want)
		}
	}
}

func TestSpacingAtErrors(t *testing.T) {
	stakes, levels := []int64{math.MinInt64, -20, -1, 0, 1, 2, 61, 62, math.MaxInt64}, []int64{math.MinInt64, -1, 2, 3, 12, 1 << 32, math.MaxInt64}
	check := func(shape []int64, n, level, want int64) {
		if got, code := impl.SpacingAt(shape, n, level); got != (impl.Fraction{}) || code != want {
			t.Errorf("SpacingAt(%v, %d, %d) = %v, %d, want the code %d", shape, n, level, got, code, want)
		}
	}
	for _, n := range append(stakes, 20) {
		for _, level := range append(levels, 1) {
			if n != 20 || level != 1 {
				check([]int64{600, 700}, n, level, impl.ErrRange)
			}
			for _, shape := range noShapes() {
				check(shape, n, level, impl.ErrInvalid)
			}
		}
	}
}

func TestStakesRange(t *testing.T) {
	source := rand.New(rand.NewSource(88))
	for i := range 8000 {
		low := 1 + source.Int63n(200)
		circumference, high := 1+source.Int63n(5000), low+source.Int63n(201-low)
		if i%2 == 0 {
			// Next to a multiple of low, with few good numbers or none.
			circumference, high = min(5000, low*(3+source.Int63n(58))+source.Int63n(3)), min(200, low+source.Int63n(3))
		}
		var want [3]int64
		if good := goodBy(circumference, low, high); len(good) == 0 {
			want = [3]int64{0, 0, impl.ErrNotFound}
		} else {
			want = [3]int64{good[0], good[len(good)-1], impl.OK}
		}
		least, most, code := impl.StakesRange(circumference, low, high)
		if got := [3]int64{least, most, code}; got != want {
			t.Fatalf("StakesRange(%d, %d, %d) = %v, want %v", circumference, low, high, got, want)
		}
	}
}

func TestStakesRangeByHand(t *testing.T) {
	cases := map[[3]int64][3]int64{
		{600, 25, 40}: {15, 24, impl.OK}, {1200, 25, 40}: {30, 48, impl.OK}, {601, 25, 40}: {16, 24, impl.OK}, {599, 25, 40}: {15, 23, impl.OK}, {10, 50, 60}: {0, 0, impl.ErrNotFound},
		// Both limits of the distance are reached exactly.
		{600, 25, 25}: {24, 24, impl.OK}, {600, 40, 40}: {15, 15, impl.OK}, {610, 25, 25}: {0, 0, impl.ErrNotFound}, {599, 40, 40}: {0, 0, impl.ErrNotFound}, {601, 40, 40}: {0, 0, impl.ErrNotFound},
		// There are 3 to 60 stakes, also where fewer or more of them would be good.
		{600, 1, 200}: {3, 60, impl.OK}, {600, 200, 200}: {3, 3, impl.OK}, {599, 200, 200}: {0, 0, impl.ErrNotFound}, {599, 199, 200}: {3, 3, impl.OK}, {400, 190, 200}: {0, 0, impl.ErrNotFound},
		{3, 1, 200}: {3, 3, impl.OK}, {2, 1, 200}: {0, 0, impl.ErrNotFound}, {1, 1, 1}: {0, 0, impl.ErrNotFound}, {60, 1, 1}: {60, 60, impl.OK}, {61, 1, 1}: {0, 0, impl.ErrNotFound}, {61, 1, 2}: {31, 60, impl.OK},
		{5000, 1, 200}: {25, 60, impl.OK}, {5000, 1, 83}: {0, 0, impl.ErrNotFound}, {5000, 1, 84}: {60, 60, impl.OK}, {5000, 200, 200}: {25, 25, impl.OK}, {4, 1, 200}: {3, 4, impl.OK},
		// Between 52 and 53 stakes there is none that is good.
		{1000, 19, 19}: {0, 0, impl.ErrNotFound},
	}
	for _, apart := range noApart() {
		cases[[3]int64{600, apart[0], apart[1]}] = [3]int64{0, 0, impl.ErrRange}
		cases[[3]int64{10, apart[0], apart[1]}] = [3]int64{0, 0, impl.ErrRange}
	}
	for _, n := range []int64{math.MinInt64, -600, -1, 0, 5001, 5002, math.MaxInt64} {
		cases[[3]int64{n, 25, 40}] = [3]int64{0, 0, impl.ErrRange}
		cases[[3]int64{n, 40, 25}] = [3]int64{0, 0, impl.ErrRange}
	}
	for c, want := range cases {
		least, most, code := impl.StakesRange(c[0], c[1], c[2])
		if got := [3]int64{least, most, code}; got != want {
			t.Errorf("StakesRange(%d, %d, %d) = %v, want %v", c[0], c[1], c[2], got, want)
		}
	}
}

// checkPlan checks what promise 8 says of a plan, with the functions of the chapter themselves.
func checkPlan(t *testing.T, s shapeCase, plan []int64) {
	t.Helper()
	if len(plan) != len(s.levels) {
		t.Fatalf("the plan %v of %v has not one number for each level", plan, s)
	}
	for level, n := range plan {
		apart, code := impl.SpacingAt(s.levels, n, int64(level))
		if code != impl.OK || apart.Num < s.low*apart.Den || apart.Num > s.high*apart.Den {
			t.Fatalf("the plan %v of %v: at the level %d stakes are %v apart, %d", plan, s, level, apart, code)
		}
		least, most, code := impl.StakesRange(s.levels[level], s.low, s.high)
		if code != impl.OK || n < least || n > most {
			t.Fatalf("the plan %v of %v: at the level %d there are to be %d to %d stakes, %d", plan, s, level, least, most, code)
		}
		if level > 0 && apartBy(plan[level-1], n) > 6 {
			t.Fatalf("the plan %v of %v changes too much at the level %d", plan, s, level)
		}
	}
}

// TestPromise8 checks that plans have good stakes, that no other plan has fewer changes, and that a shape upside down needs as many.
func TestPromise8(t *testing.T) {
	found, changing := 0, 0
	for _, s := range someShapes() {
		plan, code := impl.StakePlan(s.levels, s.low, s.high)
		turned, turnedCode := impl.Turned(s.levels)
		over, overCode := impl.StakePlan(turned, s.low, s.high)
		if turnedCode != impl.OK || code != overCode {
			t.Fatalf("StakePlan(%v): %d, and upside down %d", s, code, overCode)
		}
		want, least, ok := planBy(s.goodAtAll())
		if !ok {
			if len(plan) != 0 || code != impl.ErrNotFound || len(over) != 0 {
				t.Fatalf("StakePlan(%v) = %v, %d, and upside down %v; there is none", s, plan, code, over)
			}
			continue
		}
		if !slices.Equal(plan, want) || code != impl.OK {
			t.Fatalf("StakePlan(%v) = %v, %d, want %v", s, plan, code, want)
		}
		checkPlan(t, s, plan)
		checkPlan(t, s.turned(), over)
		changes, one := impl.ChangesOf(plan)
		overChanges, two := impl.ChangesOf(over)
		if one != impl.OK || two != impl.OK || changes != least || overChanges != least {
			t.Fatalf("the plans %v and %v of %v and upside down have %d and %d changes, want %d", plan, over, s, changes, overChanges, least)
		}
		found++
		if least > 0 {
			changing++
		}
	}
	if found < 400 || changing < 150 {
		t.Errorf("only %d shapes have plans, and only %d of them need changes", found, changing)
	}
}

// TestStakePlanAmongAll compares plans with all others of their shapes, where there are not too many, and counts those with equal changes.
func TestStakePlanAmongAll(t *testing.T) {
	shapes, ties := 0, 0
	for _, s := range someShapes() {
		good := s.goodAtAll()
		if manyWays(good) > 100000 {
			continue
		}
		var want []int64
		least, equal := int64(math.MaxInt64), 0
		eachPlan(good, nil, 0, func(plan []int64, sum int64) {
			if sum < least {
				want, least, equal = plan, sum, 0
			}
			if sum == least && sum > 0 {
				equal++
			}
		})
		wantCode := int64(impl.OK)
		if want == nil {
			wantCode = impl.ErrNotFound
		}
		if got, code := impl.StakePlan(s.levels, s.low, s.high); !slices.Equal(got, want) || code != wantCode {
			t.Fatalf("StakePlan(%v) = %v, %d, want %v, %d", s, got, code, want, wantCode)
		}
		shapes++
		if equal > 1 {
			ties++
		}
	}
	if shapes < 400 || ties < 50 {
		t.Errorf("only %d shapes have few plans, and in only %d of them several ones have equal changes", shapes, ties)
	}
}

func TestStakePlanByHand(t *testing.T) {
	cases := []struct {
		shape   shapeCase
		want    []int64
		changes int64
	}{
		{shapeCase{[]int64{600, 1200}, 25, 40}, []int64{24, 30}, 6}, {shapeCase{[]int64{1200, 600}, 25, 40}, []int64{30, 24}, 6}, {shapeCase{[]int64{600}, 25, 40}, []int64{15}, 0},
		// Without changes the least number that is good for all levels comes first.
		{shapeCase{[]int64{600, 600, 600}, 25, 40}, []int64{15, 15, 15}, 0}, {shapeCase{[]int64{600, 700}, 25, 40}, []int64{18, 18}, 0}, {shapeCase{[]int64{700, 600}, 25, 40}, []int64{18, 18}, 0},
		// 10 to 12, 12 to 14 and 14 to 16 stakes: two are added, on the lower or the upper way, or one on each.
		{shapeCase{[]int64{300, 360, 420}, 25, 30}, []int64{12, 12, 14}, 2}, {shapeCase{[]int64{420, 360, 300}, 25, 30}, []int64{14, 12, 12}, 2},
		{shapeCase{[]int64{300, 360, 360, 420}, 25, 30}, []int64{12, 12, 12, 14}, 2}, {shapeCase{[]int64{420, 360, 360, 300}, 25, 30}, []int64{14, 12, 12, 12}, 2},
		{shapeCase{[]int64{300, 420, 300}, 25, 30}, []int64{12, 14, 12}, 4}, {shapeCase{[]int64{420, 300, 420}, 25, 30}, []int64{14, 12, 14}, 4},
		{shapeCase{[]int64{360, 420, 360}, 25, 30}, []int64{14, 14, 14}, 0}, {shapeCase{[]int64{360, 300, 420}, 25, 30}, []int64{12, 12, 14}, 2},
		// 3 to 6, 6 to 12 and 13 to 26 stakes: of the seven that are added, six may be at one level, so one must be at the other.
		{shapeCase{[]int64{60, 120, 260}, 10, 20}, []int64{6, 7, 13}, 7}, {shapeCase{[]int64{260, 120, 60}, 10, 20}, []int64{13, 7, 6}, 7},
		{shapeCase{[]int64{60, 120, 120, 260}, 10, 20}, []int64{6, 6, 7, 13}, 7}, {shapeCase{[]int64{260, 120, 120, 60}, 10, 20}, []int64{13, 7, 6, 6}, 7},
		// One number is good for each level; six may be added or dropped, seven may not.
		{shapeCase{[]int64{250, 400}, 25, 25}, []int64{10, 16}, 6}, {shapeCase{[]int64{400, 250, 400}, 25, 25}, []int64{16, 10, 16}, 12}, {shapeCase{[]int64{250, 425}, 25, 25}, nil, 0}, {shapeCase{[]int64{425, 250}, 25, 25}, nil, 0},
		{shapeCase{[]int64{250, 400, 550, 700}, 25, 25}, []int64{10, 16, 22, 28}, 18}, {shapeCase{[]int64{250, 400, 550, 725}, 25, 25}, nil, 0}, {shapeCase{[]int64{600, 1201}, 25, 40}, nil, 0},
		// A level without a good number, wherever it is.
		{shapeCase{[]int64{10}, 50, 60}, nil, 0}, {shapeCase{[]int64{600, 10}, 25, 40}, nil, 0}, {shapeCase{[]int64{10, 600}, 25, 40}, nil, 0}, {shapeCase{[]int64{600, 10, 600}, 25, 40}, nil, 0}, {shapeCase{[]int64{600, 2000}, 25, 40}, nil, 0},
		{shapeCase{slices.Repeat([]int64{600}, 12), 1, 200}, slices.Repeat([]int64{3}, 12), 0}, {shapeCase{slices.Repeat([]int64{60}, 12), 1, 1}, slices.Repeat([]int64{60}, 12), 0},
		{shapeCase{[]int64{5000, 60, 5000}, 1, 200}, []int64{25, 25, 25}, 0}, {shapeCase{[]int64{5000, 3, 5000}, 1, 200}, nil, 0},
	}
	for _, c := range cases {
		wantCode := int64(impl.OK)
		if c.want == nil {
			wantCode = impl.ErrNotFound
		}
		got, code := impl.StakePlan(c.shape.levels, c.shape.low, c.shape.high)
		if !slices.Equal(got, c.want) || code != wantCode {
			t.Errorf("StakePlan(%v) = %v, %d, want %v, %d", c.shape, got, code, c.want, wantCode)
		}
		if changes, code := impl.ChangesOf(c.want); changes != c.changes || code != impl.OK {
			t.Errorf("ChangesOf(%v) = %d, %d, want %d", c.want, changes, code, c.changes)
		}
	}
}

// TestMostChanges has plans with as many changes as there may be: one number is good for each level, and each step is MaxStep.
func TestMostChanges(t *testing.T) {
	var levels, want []int64
	for i := range int64(12) {
		n := 54 + 6*(i%2)
		levels, want = append(levels, n*80), append(want, n)
	}
	if got, code := impl.StakePlan(levels, 80, 80); !slices.Equal(got, want) || code != impl.OK {
		t.Errorf("StakePlan(%v, 80, 80) = %v, %d, want %v", levels, got, code, want)
	}
	if got, code := impl.ChangesOf(want); got != 66 || code != impl.OK {
		t.Errorf("ChangesOf(%v) = %d, %d, want 66", want, got, code)
	}
}

// TestPlanErrors checks the errors of the functions that have low and high: those of the shape before those of the range, and these before ErrNotFound.
func TestPlanErrors(t *testing.T) {
	check := func(levels []int64, low, high, want int64) {
		if got, code := impl.StakePlan(levels, low, high); len(got) != 0 || code != want {
			t.Errorf("StakePlan(%v, %d, %d) = %v, %d, want the code %d", levels, low, high, got, code, want)
		}
		if got, code := impl.OneNumber(levels, low, high); got != 0 || code != want {
			t.Errorf("OneNumber(%v, %d, %d) = %d, %d, want the code %d", levels, low, high, got, code, want)
		}
	}
	for _, levels := range noShapes() {
		check(levels, 25, 40, impl.ErrInvalid)
		for _, apart := range noApart() {
			check(levels, apart[0], apart[1], impl.ErrInvalid)
		}
	}
	for _, apart := range noApart() {
		for _, levels := range [][]int64{{600}, {600, 700}, {600, 2000}, {1}, slices.Repeat([]int64{600}, 12)} {
			check(levels, apart[0], apart[1], impl.ErrRange)
		}
	}
	check([]int64{600, 10}, 25, 40, impl.ErrNotFound)
	check([]int64{600, 1201}, 25, 40, impl.ErrNotFound)
	check([]int64{2}, 1, 200, impl.ErrNotFound)
}

func TestChangesOf(t *testing.T) {
	cases := []struct {
		plan []int64
		want int64
	}{
		{nil, 0}, {[]int64{}, 0}, {[]int64{3}, 0}, {[]int64{60}, 0}, {[]int64{24, 30}, 6}, {[]int64{30, 24}, 6}, {[]int64{10, 12, 9, 9, 20}, 16}, {[]int64{20, 20, 20}, 0},
		// More is added here than in any plan for a shape; the sum is the same kind of sum.
		{[]int64{3, 60}, 57}, {[]int64{60, 3, 60}, 114}, {[]int64{10, 17}, 7}, {slices.Repeat([]int64{3, 60}, 6), 11 * 57}, {slices.Repeat([]int64{60}, 12), 0},
	}
	for _, c := range cases {
		if got, code := impl.ChangesOf(c.plan); got != c.want || code != impl.OK {
			t.Errorf("ChangesOf(%v) = %d, %d, want %d", c.plan, got, code, c.want)
		}
	}
	source := rand.New(rand.NewSource(80))
	for range 500 {
		var plan []int64
		var want int64
		for k := range source.Intn(13) {
			plan = append(plan, 3+source.Int63n(58))
			if k > 0 {
				want += apartBy(plan[k], plan[k-1])
			}
		}
		if got, code := impl.ChangesOf(plan); got != want || code != impl.OK {
			t.Errorf("ChangesOf(%v) = %d, %d, want %d", plan, got, code, want)
		}
	}
	bad := [][]int64{{2}, {61}, {0}, {-3}, {24, 2}, {2, 24}, {24, 61, 24}, {61, 2}, {math.MinInt64, math.MaxInt64}, {24, math.MinInt64}, {math.MaxInt64}, slices.Repeat([]int64{24}, 13), slices.Repeat([]int64{3, 60}, 50)}
	for _, plan := range bad {
		if got, code := impl.ChangesOf(plan); got != 0 || code != impl.ErrRange {
			t.Errorf("ChangesOf(%v) = %d, %d", plan, got, code)
		}
	}
}

func TestOneNumber(t *testing.T) {
	found := 0
	for _, s := range someShapes() {
		var want, wantCode int64 = 0, impl.ErrNotFound
		for n := int64(60); n >= 3; n-- {
			isGood := true
			for _, level := range s.levels {
				apart := big.NewRat(level, n)
				isGood = isGood && apart.Cmp(big.NewRat(s.low, 1)) >= 0 && apart.Cmp(big.NewRat(s.high, 1)) <= 0
			}
			if isGood {
				want, wantCode = n, impl.OK
			}
		}
		if got, code := impl.OneNumber(s.levels, s.low, s.high); got != want || code != wantCode {
			t.Fatalf("OneNumber(%v) = %d, %d, want %d, %d", s, got, code, want, wantCode)
		}
		if wantCode != impl.OK {
			continue
		}
		found++
		// A plan without changes is the best one.
		if plan, code := impl.StakePlan(s.levels, s.low, s.high); !slices.Equal(plan, slices.Repeat([]int64{want}, len(s.levels))) || code != impl.OK {
			t.Fatalf("StakePlan(%v) = %v, %d, but %d stakes are good for all levels", s, plan, code, want)
		}
	}
	if found < 100 {
		t.Errorf("only %d shapes have one number", found)
	}
}

func TestOneNumberByHand(t *testing.T) {
	cases := []struct {
		shape      shapeCase
		want, code int64
	}{
		{shapeCase{[]int64{600, 700}, 25, 40}, 18, impl.OK}, {shapeCase{[]int64{700, 600}, 25, 40}, 18, impl.OK}, {shapeCase{[]int64{600}, 25, 40}, 15, impl.OK}, {shapeCase{[]int64{600, 960}, 25, 40}, 24, impl.OK},
		{shapeCase{[]int64{600, 961}, 25, 40}, 0, impl.ErrNotFound}, {shapeCase{[]int64{600, 700, 961}, 25, 40}, 0, impl.ErrNotFound}, {shapeCase{[]int64{600, 2000}, 25, 40}, 0, impl.ErrNotFound}, {shapeCase{[]int64{10}, 50, 60}, 0, impl.ErrNotFound},
		{shapeCase{[]int64{60, 61}, 1, 2}, 31, impl.OK}, {shapeCase{[]int64{3, 600}, 1, 200}, 3, impl.OK}, {shapeCase{[]int64{3, 601}, 1, 200}, 0, impl.ErrNotFound}, {shapeCase{[]int64{60}, 1, 1}, 60, impl.OK},
	}
	for _, c := range cases {
		if got, code := impl.OneNumber(c.shape.levels, c.shape.low, c.shape.high); got != c.want || code != c.code {
			t.Errorf("OneNumber(%v) = %d, %d, want %d, %d", c.shape, got, code, c.want, c.code)
		}
	}
}

func TestWidestLevel(t *testing.T) {
	cases := []struct {
		levels   []int64
		at, want int64
	}{
		{[]int64{600, 1200}, 1, 1200}, {[]int64{1200, 600}, 0, 1200}, {[]int64{600}, 0, 600}, {[]int64{600, 700, 700, 500, 700}, 1, 700}, {[]int64{1, 1, 1}, 0, 1}, {[]int64{1, 2, 5000, 4999, 5000}, 2, 5000},
		{append(slices.Repeat([]int64{4999}, 11), 5000), 11, 5000},
	}
	for _, c := range cases {
		if at, got, code := impl.WidestLevel(c.levels); at != c.at || got != c.want || code != impl.OK {
			t.Errorf("WidestLevel(%v) = %d, %d, %d, want %d, %d", c.levels, at, got, code, c.at, c.want)
		}
	}
	for _, s := range someShapes() {
		at, got, code := impl.WidestLevel(s.levels)
		if code != impl.OK || s.levels[at] != got {
			t.Fatalf("WidestLevel(%v) = %d, %d, %d", s.levels, at, got, code)
		}
		for i, level := range s.levels {
			if level > got || level == got && int64(i) < at {
				t.Fatalf("WidestLevel(%v) = %d, %d, but the level %d has %d", s.levels, at, got, i, level)
			}
		}
	}
}

func TestTurned(t *testing.T) {
	for _, s := range someShapes() {
		if got, code := impl.Turned(s.levels); !slices.Equal(got, s.turned().levels) || code != impl.OK {
			t.Fatalf("Turned(%v) = %v, %d", s.levels, got, code)
		}
	}
	for levels, want := range map[[3]int64][]int64{{600, 1200, 700}: {700, 1200, 600}, {1, 2, 3}: {3, 2, 1}, {5000, 5000, 1}: {1, 5000, 5000}} {
		if got, code := impl.Turned(levels[:]); !slices.Equal(got, want) || code != impl.OK {
			t.Errorf("Turned(%v) = %v, %d, want %v", levels, got, code, want)
		}
	}
}

func TestLevelsBetween(t *testing.T) {
	cases := []struct {
		levels, want []int64
		code         int64
	}{
		{[]int64{600, 700}, []int64{600, 650, 700}, impl.OK}, {[]int64{600}, []int64{600}, impl.OK}, {[]int64{700, 600}, []int64{700, 650, 600}, impl.OK}, {[]int64{600, 601}, []int64{600, 600, 601}, impl.OK},
		{[]int64{601, 600}, []int64{601, 600, 600}, impl.OK}, {[]int64{1, 5000}, []int64{1, 2500, 5000}, impl.OK}, {[]int64{1, 2, 4}, []int64{1, 1, 2, 3, 4}, impl.OK}, {[]int64{5000, 5000}, []int64{5000, 5000, 5000}, impl.OK}, {[]int64{1, 1}, []int64{1, 1, 1}, impl.OK},
		// Six levels become eleven; seven would become thirteen.
		{[]int64{10, 20, 30, 40, 50, 60}, []int64{10, 15, 20, 25, 30, 35, 40, 45, 50, 55, 60}, impl.OK}, {[]int64{10, 20, 30, 40, 50, 60, 70}, nil, impl.ErrFull}, {slices.Repeat([]int64{600}, 12), nil, impl.ErrFull},
	}
	for _, s := range someShapes() {
		var want []int64
		for i, level := range s.levels {
			if i > 0 {
				want = append(want, (s.levels[i-1]+level-(s.levels[i-1]+level)%2)/2)
			}
			want = append(want, level)
		}
		code := int64(impl.OK)
		if len(want) > 12 {
			want, code = nil, impl.ErrFull
		}
		cases = append(cases, struct {
			levels, want []int64
			code         int64
		}{s.levels, want, code})
	}
	for _, c := range cases {
		got, code := impl.LevelsBetween(c.levels)
		if !slices.Equal(got, c.want) || code != c.code {
			t.Fatalf("LevelsBetween(%v) = %v, %d, want %v, %d", c.levels, got, code, c.want, c.code)
		}
		if code == impl.OK && !impl.ValidShape(got) {
			t.Fatalf("LevelsBetween(%v) = %v, which is no shape", c.levels, got)
		}
	}
}

func TestNoShapes(t *testing.T) {
	for _, levels := range noShapes() {
		if at, got, code := impl.WidestLevel(levels); at != 0 || got != 0 || code != impl.ErrInvalid {
			t.Errorf("WidestLevel(%v) = %d, %d, %d", levels, at, got, code)
		}
		if got, code := impl.Turned(levels); len(got) != 0 || code != impl.ErrInvalid {
			t.Errorf("Turned(%v) = %v, %d", levels, got, code)
		}
		// With 13 levels ErrFull would be next; ErrInvalid goes before it.
		if got, code := impl.LevelsBetween(levels); len(got) != 0 || code != impl.ErrInvalid {
			t.Errorf("LevelsBetween(%v) = %v, %d", levels, got, code)
		}
	}
}
