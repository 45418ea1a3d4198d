package tests

import (
	"math"
	"math/rand"
	"slices"
	"testing"

	"loop.example/g01064/impl"
)

func bed(age int64, yields ...int64) impl.Bed { return impl.Bed{Yields: yields, Age: age} }

// someBeds returns valid beds of all kinds: with one number and with five, with falling and equal yields, of each age.
func someBeds() []impl.Bed {
	beds := []impl.Bed{
		bed(1, 10, 30), bed(0, 0), bed(1, 0), bed(0, 10000), bed(1, 10000), bed(0, 0, 0, 0, 0, 0), bed(5, 10000, 10000, 10000, 10000, 10000),
		bed(0, 0, 0, 0, 0, 1), bed(5, 0, 0, 0, 0, 1), bed(3, 9, 5, 1), bed(2, 10, 20), bed(0, 10, 20, 30), bed(4, 1, 3, 6, 10), bed(5, 1, 2, 4, 8, 16),
	}
	source := rand.New(rand.NewSource(3))
	for range 60 {
		// Small numbers make many plans equally good.
		most := []int64{1, 3, 10, 10000}[source.Intn(4)]
		yields := make([]int64, 1+source.Intn(impl.MaxAge))
		for k := range yields {
			yields[k] = source.Int63n(most + 1)
		}
		beds = append(beds, bed(source.Int63n(int64(len(yields))+1), yields...))
	}
	return beds
}

// noBeds returns beds each of which breaks one rule.
func noBeds() []impl.Bed {
	return []impl.Bed{
		{}, bed(1), bed(0, 1, 2, 3, 4, 5, 6), bed(-1, 10, 30), bed(3, 10, 30), bed(2, 25), bed(0, -1), bed(0, 10001), bed(1, 10, -1), bed(1, 10, 10001),
		bed(6, 1, 2, 3, 4, 5), bed(0, 1, 2, 3, 4, -5), bed(math.MinInt64, 10), bed(math.MaxInt64, 10), bed(1, math.MinInt64), bed(1, math.MaxInt64, math.MaxInt64),
	}
}

// bedLists returns valid lists of 0 to 8 beds.
func bedLists() [][]impl.Bed {
	all := someBeds()
	lists := [][]impl.Bed{nil, {}, {bed(1, 10, 30), bed(1, 25), bed(0, 5, 50)}, slices.Repeat([]impl.Bed{bed(2, 1, 1)}, 8)}
	for i, b := range all {
		lists = append(lists, all[i:min(i+1+i%8, len(all))], []impl.Bed{b, b})
	}
	return lists
}

// noBedLists returns lists that are not valid, among them one that is only too long.
func noBedLists() [][]impl.Bed {
	lists := [][]impl.Bed{slices.Repeat([]impl.Bed{bed(1, 10, 30)}, 9)}
	for _, b := range noBeds() {
		lists = append(lists, []impl.Bed{b}, []impl.Bed{bed(1, 10, 30), b}, []impl.Bed{b, bed(1, 25), bed(0, 5, 50)})
	}
	return lists
}

// yieldAt returns what a bed of an age yields, as the document tells it.
func yieldAt(b impl.Bed, age int64) int64 {
	switch {
	case age == 0:
		return 0
	case age > int64(len(b.Yields)):
		return b.Yields[len(b.Yields)-1]
	}
	return b.Yields[age-1]
}

// workedOff follows a plan year by year, with ages that grow without an end, and returns the sum of what is cut.
func workedOff(b impl.Bed, cuts []int64, years int64) int64 {
	sum, age := int64(0), b.Age
	for year := range years {
		if slices.Contains(cuts, year) {
			sum += yieldAt(b, age)
			age = 0
		}
		age++
	}
	return sum
}

// plans returns all lists of numbers below n, each one ascending: shorter ones first, and those of one length compared number by number.
func plans(n int64) [][]int64 {
	var all [][]int64
	for mask := range int64(1) << n {
		plan := []int64{}
		for k := range n {
			if mask>>k&1 == 1 {
				plan = append(plan, k)
			}
		}
		all = append(all, plan)
	}
	slices.SortFunc(all, func(a, b []int64) int {
		if len(a) != len(b) {
			return len(a) - len(b)
		}
		return slices.Compare(a, b)
	})
	return all
}

func TestBedLimits(t *testing.T) {
	got := []int64{impl.MaxBeds, impl.MaxYears, impl.MaxYield, impl.MaxAge}
	if want := []int64{8, 12, 10000, 5}; !slices.Equal(got, want) {
		t.Errorf("the limits are %v, want %v", got, want)
	}
}

func TestValidBeds(t *testing.T) {
	for _, list := range bedLists() {
		if !impl.ValidBeds(list) {
			t.Errorf("%v is valid", list)
		}
	}
	for _, list := range noBedLists() {
		if impl.ValidBeds(list) {
			t.Errorf("%v is not valid", list)
		}
	}
	if impl.ValidBeds(slices.Repeat([]impl.Bed{bed(1, 10, 30)}, 1000)) {
		t.Error("1000 beds are not valid")
	}
}

func TestYieldNow(t *testing.T) {
	for _, b := range someBeds() {
		for b.Age = range int64(len(b.Yields)) + 1 {
			if got, code := impl.YieldNow(b); got != yieldAt(b, b.Age) || code != impl.OK {
				t.Errorf("YieldNow(%v) = %d, %d", b, got, code)
			}
		}
	}
	for _, b := range noBeds() {
		if got, code := impl.YieldNow(b); got != 0 || code != impl.ErrInvalid {
			t.Errorf("YieldNow(%v) = %d, %d", b, got, code)
		}
	}
}

func TestYieldOfPlan(t *testing.T) {
	for _, b := range someBeds() {
		for years := int64(1); years <= 7; years++ {
			for _, cuts := range plans(years) {
				if got, code := impl.YieldOfPlan(b, cuts, years); got != workedOff(b, cuts, years) || code != impl.OK {
					t.Fatalf("YieldOfPlan(%v, %v, %d) = %d, %d, want %d", b, cuts, years, got, code, workedOff(b, cuts, years))
				}
			}
		}
	}
}

func TestYieldOfPlanByHand(t *testing.T) {
	cases := []struct {
		name  string
		b     impl.Bed
		cuts  []int64
		years int64
		want  int64
	}{
		{"the document's example", bed(1, 10, 30), []int64{0, 2}, 3, 40},
		{"only the first year", bed(1, 10, 30), []int64{0}, 3, 10},
		{"no cuts", bed(1, 10, 30), nil, 12, 0},
		{"nothing for no year", bed(0, 10, 30), []int64{0}, 1, 0},
		{"a cut for nothing starts anew", bed(0, 10, 30), []int64{0, 1}, 2, 10},
		{"the years before the plan count", bed(2, 10, 30, 50), []int64{1}, 2, 50},
		{"more years than Yields", bed(2, 10, 30), []int64{11}, 12, 30},
		{"more years than Yields between two cuts", bed(1, 1, 5, 7), []int64{0, 11}, 12, 8},
		{"the last one is less", bed(1, 9, 5), []int64{3}, 4, 5},
		{"every year", bed(1, 9, 5), []int64{0, 1, 2, 3, 4, 5, 6, 7, 8, 9, 10, 11}, 12, 108},
		{"the most of all", bed(1, 10000), []int64{0, 1, 2, 3, 4, 5, 6, 7, 8, 9, 10, 11}, 12, 120000},
	}
	for _, c := range cases {
		if got, code := impl.YieldOfPlan(c.b, c.cuts, c.years); got != c.want || code != impl.OK {
			t.Errorf("%s: YieldOfPlan = %d, %d, want %d", c.name, got, code, c.want)
		}
	}
}

func TestYieldOfPlanErrors(t *testing.T) {
	b := bed(1, 10, 30)
	for _, years := range []int64{0, -1, 13, math.MinInt64, math.MaxInt64} {
		for _, cuts := range [][]int64{nil, {0}, {-1}} {
			if got, code := impl.YieldOfPlan(b, cuts, years); got != 0 || code != impl.ErrRange {
				t.Errorf("YieldOfPlan(%v, %v, %d) = %d, %d", b, cuts, years, got, code)
			}
		}
	}
	for _, cuts := range [][]int64{
		{3}, {0, 3}, {-1}, {-1, 0}, {0, 0}, {2, 2}, {1, 0}, {0, 2, 1}, {0, 1, 2, 3}, {0, 1, 2, 2}, {math.MinInt64}, {math.MaxInt64}, {math.MaxInt64, math.MinInt64}, {0, 1 << 32},
		slices.Repeat([]int64{1}, 1000),
	} {
		if got, code := impl.YieldOfPlan(b, cuts, 3); got != 0 || code != impl.ErrRange {
			t.Errorf("YieldOfPlan(%v, %v, 3) = %d, %d", b, cuts, got, code)
		}
	}
	for _, b := range noBeds() {
		for _, cuts := range [][]int64{nil, {0}, {5}, {1, 0}} {
			for _, years := range []int64{1, 12, 0, 13} {
				if got, code := impl.YieldOfPlan(b, cuts, years); got != 0 || code != impl.ErrInvalid {
					t.Errorf("YieldOfPlan(%v, %v, %d) = %d, %d", b, cuts, years, got, code)
				}
			}
		}
	}
}

// checkBestCuts checks the told cuts against all plans.
func checkBestCuts(t *testing.T, b impl.Bed, years int64, all [][]int64) {
	t.Helper()
	cuts, sum, code := impl.BestCuts(b, years)
	if code != impl.OK {
		t.Fatalf("BestCuts(%v, %d): code %d", b, years, code)
	}
	if told, code := impl.YieldOfPlan(b, cuts, years); told != sum || code != impl.OK {
		t.Fatalf("BestCuts(%v, %d) = %v, %d, but they yield %d, %d", b, years, cuts, sum, told, code)
	}
	var best []int64
	most := int64(-1)
	for _, plan := range all {
		if yield := workedOff(b, plan, years); yield > most {
			best, most = plan, yield
		}
	}
	if sum != most || !slices.Equal(cuts, best) {
		t.Fatalf("BestCuts(%v, %d) = %v, %d, want %v, %d", b, years, cuts, sum, best, most)
	}
}

func TestBestCuts(t *testing.T) {
	for years := int64(1); years <= 9; years++ {
		all := plans(years)
		for _, b := range someBeds() {
			checkBestCuts(t, b, years, all)
		}
	}
	all := plans(impl.MaxYears)
	for _, b := range someBeds()[:24] {
		checkBestCuts(t, b, impl.MaxYears, all)
	}
}

// TestBestCutsOfSmallBeds takes all beds with up to three small yields, which have most of the ties.
func TestBestCutsOfSmallBeds(t *testing.T) {
	for years := int64(1); years <= 5; years++ {
		all := plans(years)
		for n := range int64(64) {
			yields := []int64{n % 4, n / 4 % 4, n / 16}
			for count := 1; count <= 3; count++ {
				for age := range int64(count) + 1 {
					checkBestCuts(t, bed(age, yields[:count]...), years, all)
				}
			}
		}
	}
}

func TestBestCutsByHand(t *testing.T) {
	cases := []struct {
		name  string
		b     impl.Bed
		years int64
		cuts  []int64
		sum   int64
	}{
		{"the document's example", bed(1, 10, 30), 3, []int64{0, 2}, 40},
		{"the last year is cut", bed(1, 10, 30), 2, []int64{1}, 30},
		{"one year", bed(1, 10, 30), 1, []int64{0}, 10},
		{"one year that yields nothing", bed(0, 10, 30), 1, nil, 0},
		{"nothing ever", bed(2, 0, 0), 12, nil, 0},
		{"nothing in time", bed(0, 0, 0, 0, 0, 7), 5, nil, 0},
		{"just in time", bed(0, 0, 0, 0, 0, 7), 6, []int64{5}, 7},
		{"fewer cuts for the same sum", bed(0, 10, 20), 3, []int64{2}, 20},
		{"first years of as many cuts", bed(0, 5, 5), 3, []int64{1, 2}, 10},
		{"first year of one cut", bed(1, 0, 7, 0), 3, []int64{1}, 7},
		{"one cut, where each year yields the same", bed(2, 0, 4), 2, []int64{0}, 4},
		{"a second cut without any yield is left out", bed(1, 0, 0, 8), 6, []int64{2, 5}, 16},
		{"a cut for nothing makes younger", bed(3, 9, 0, 0), 2, []int64{0, 1}, 9},
		{"each year", bed(1, 10000), 12, []int64{0, 1, 2, 3, 4, 5, 6, 7, 8, 9, 10, 11}, 120000},
		{"the age at the beginning is used", bed(5, 1, 2, 4, 8, 16), 6, []int64{0, 5}, 32},
		{"waiting beyond the Yields is no use but no harm", bed(5, 0, 0, 0, 0, 16), 4, []int64{0}, 16},
	}
	for _, c := range cases {
		cuts, sum, code := impl.BestCuts(c.b, c.years)
		if !slices.Equal(cuts, c.cuts) || sum != c.sum || code != impl.OK {
			t.Errorf("%s: BestCuts = %v, %d, %d, want %v, %d", c.name, cuts, sum, code, c.cuts, c.sum)
		}
	}
}

func TestBestCutsErrors(t *testing.T) {
	for _, years := range []int64{0, -1, 13, math.MinInt64, math.MaxInt64} {
		if cuts, sum, code := impl.BestCuts(bed(1, 10, 30), years); len(cuts) != 0 || sum != 0 || code != impl.ErrRange {
			t.Errorf("BestCuts for %d years = %v, %d, %d", years, cuts, sum, code)
		}
	}
	for _, b := range noBeds() {
		for _, years := range []int64{1, 12, 0, 13} {
			if cuts, sum, code := impl.BestCuts(b, years); len(cuts) != 0 || sum != 0 || code != impl.ErrInvalid {
				t.Errorf("BestCuts(%v, %d) = %v, %d, %d", b, years, cuts, sum, code)
			}
		}
	}
}

func TestBestRhythm(t *testing.T) {
	cases := []struct {
		name     string
		b        impl.Bed
		k        int64
		num, den int64
	}{
		{"the second one", bed(1, 10, 30), 2, 15, 1},
		{"one number", bed(0, 7), 1, 7, 1},
		{"the least one of several", bed(0, 10, 20, 30), 1, 10, 1},
		{"the least one of several behind", bed(0, 1, 10, 15, 20), 2, 5, 1},
		{"all nothing", bed(3, 0, 0, 0), 1, 0, 1},
		{"no whole quotient", bed(0, 1, 1, 7, 9), 3, 7, 3},
		{"lowest terms", bed(0, 1, 2, 3, 10), 4, 5, 2},
		{"only the last one", bed(0, 0, 0, 0, 0, 1), 5, 1, 5},
		{"quotients that are equal only if rounded", bed(0, 3, 7, 11), 3, 11, 3},
		{"the greatest ones", bed(5, 10000, 10000, 10000, 10000, 10000), 1, 10000, 1},
		{"the Age plays no part", bed(2, 10, 30), 2, 15, 1},
	}
	for _, c := range cases {
		k, f, code := impl.BestRhythm(c.b)
		if k != c.k || f != (impl.Fraction{Num: c.num, Den: c.den}) || code != impl.OK {
			t.Errorf("%s: BestRhythm = %d, %v, %d, want %d, %d/%d", c.name, k, f, code, c.k, c.num, c.den)
		}
	}
	for _, b := range noBeds() {
		if k, f, code := impl.BestRhythm(b); k != 0 || f != (impl.Fraction{}) || code != impl.ErrInvalid {
			t.Errorf("BestRhythm(%v) = %d, %v, %d", b, k, f, code)
		}
	}
}

func TestBestRhythmOfAllYears(t *testing.T) {
	for _, b := range someBeds() {
		k, f, code := impl.BestRhythm(b)
		if code != impl.OK || k < 1 || f.Den < 1 || f.Num*k != f.Den*yieldAt(b, k) {
			t.Fatalf("BestRhythm(%v) = %d, %v, %d", b, k, f, code)
		}
		for d := int64(2); d <= f.Den; d++ {
			if f.Num%d == 0 && f.Den%d == 0 {
				t.Fatalf("BestRhythm(%v) = %d, %v is not in lowest terms", b, k, f)
			}
		}
		for other := int64(1); other <= 30; other++ {
			more := yieldAt(b, other)*f.Den - f.Num*other
			if more > 0 || more == 0 && other < k {
				t.Fatalf("BestRhythm(%v) = %d, %v, but %d years are as good", b, k, f, other)
			}
		}
	}
}

func TestCutFor(t *testing.T) {
	for _, list := range bedLists() {
		all := plans(int64(len(list)))
		together := make([]int64, len(all))
		needs := []int64{0, 1, 2, 10, 100, 10000, 80000, 100000}
		for i, cut := range all {
			for _, k := range cut {
				together[i] += yieldAt(list[k], list[k].Age)
			}
			needs = append(needs, together[i], together[i]+1)
		}
		for _, need := range needs {
			first := slices.IndexFunc(together, func(sum int64) bool { return sum >= need })
			got, code := impl.CutFor(list, need)
			if first < 0 {
				if len(got) != 0 || code != impl.ErrNotFound {
					t.Fatalf("CutFor(%v, %d) = %v, %d, want none", list, need, got, code)
				}
			} else if !slices.Equal(got, all[first]) || code != impl.OK {
				t.Fatalf("CutFor(%v, %d) = %v, %d, want %v", list, need, got, code, all[first])
			}
		}
	}
}

func TestCutForByHand(t *testing.T) {
	three := []impl.Bed{bed(1, 10, 30), bed(1, 25), bed(0, 5, 50)}
	cases := []struct {
		name string
		list []impl.Bed
		need int64
		want []int64
	}{
		{"no need", three, 0, nil},
		{"no need and no beds", nil, 0, nil},
		{"the first one of several", three, 10, []int64{0}},
		{"one instead of two", three, 20, []int64{1}},
		{"just enough", three, 35, []int64{0, 1}},
		{"the first list, not the least beds", []impl.Bed{bed(1, 9), bed(1, 1), bed(1, 5), bed(1, 5)}, 10, []int64{0, 1}},
		{"the first list begins with the least bed", []impl.Bed{bed(1, 1), bed(1, 5), bed(1, 5), bed(1, 9)}, 10, []int64{0, 3}},
		{"all beds", slices.Repeat([]impl.Bed{bed(1, 10000)}, 8), 80000, []int64{0, 1, 2, 3, 4, 5, 6, 7}},
	}
	for _, c := range cases {
		if got, code := impl.CutFor(c.list, c.need); !slices.Equal(got, c.want) || code != impl.OK {
			t.Errorf("%s: CutFor = %v, %d, want %v", c.name, got, code, c.want)
		}
	}
}

func TestCutForErrors(t *testing.T) {
	three := []impl.Bed{bed(1, 10, 30), bed(1, 25), bed(0, 5, 50)}
	for need, want := range map[int64]int64{
		36: impl.ErrNotFound, 100000: impl.ErrNotFound, 100001: impl.ErrRange, -1: impl.ErrRange, math.MinInt64: impl.ErrRange, math.MaxInt64: impl.ErrRange,
	} {
		if got, code := impl.CutFor(three, need); len(got) != 0 || code != want {
			t.Errorf("CutFor(%v, %d) = %v, %d, want %d", three, need, got, code, want)
		}
	}
	if got, code := impl.CutFor(nil, 1); len(got) != 0 || code != impl.ErrNotFound {
		t.Errorf("CutFor of no beds = %v, %d", got, code)
	}
	for _, list := range noBedLists() {
		for _, need := range []int64{0, 1, 100000, 100001, -1} {
			if got, code := impl.CutFor(list, need); len(got) != 0 || code != impl.ErrInvalid {
				t.Errorf("CutFor(%v, %d) = %v, %d", list, need, got, code)
			}
		}
	}
}

func TestAfterYear(t *testing.T) {
	for _, list := range bedLists() {
		for _, cut := range plans(int64(len(list))) {
			got, code := impl.AfterYear(list, cut)
			if code != impl.OK || len(got) != len(list) || !impl.ValidBeds(got) {
				t.Fatalf("AfterYear(%v, %v) = %v, %d", list, cut, got, code)
			}
			for i, b := range list {
				age := b.Age + 1
				if slices.Contains(cut, int64(i)) {
					age = 1
				}
				age = min(age, int64(len(b.Yields)))
				if got[i].Age != age || !slices.Equal(got[i].Yields, b.Yields) {
					t.Fatalf("AfterYear(%v, %v) = %v, want the Age %d of the bed %d", list, cut, got, age, i)
				}
			}
		}
	}
}

func TestAfterYearErrors(t *testing.T) {
	three := []impl.Bed{bed(1, 10, 30), bed(1, 25), bed(0, 5, 50)}
	for _, cut := range [][]int64{
		{3}, {0, 3}, {-1}, {-1, 2}, {0, 0}, {1, 0}, {0, 2, 1}, {0, 1, 2, 3}, {0, 1, 2, 2}, {math.MinInt64}, {math.MaxInt64}, {math.MaxInt64, math.MinInt64},
	} {
		if got, code := impl.AfterYear(three, cut); len(got) != 0 || code != impl.ErrRange {
			t.Errorf("AfterYear(%v, %v) = %v, %d", three, cut, got, code)
		}
	}
	if got, code := impl.AfterYear(nil, []int64{0}); len(got) != 0 || code != impl.ErrRange {
		t.Errorf("AfterYear of no beds = %v, %d", got, code)
	}
	for _, list := range noBedLists() {
		for _, cut := range [][]int64{nil, {0}, {9}, {1, 0}} {
			if got, code := impl.AfterYear(list, cut); len(got) != 0 || code != impl.ErrInvalid {
				t.Errorf("AfterYear(%v, %v) = %v, %d", list, cut, got, code)
			}
		}
	}
}

// TestAfterYearSharesNothing overwrites the Yields of one bed at a time, with their unused capacity.
func TestAfterYearSharesNothing(t *testing.T) {
	yields := []int64{1, 2, 3, 4, 5, 6}
	list := []impl.Bed{bed(1, yields[:3]...), bed(2, yields[:3]...), bed(0, yields[3:4]...)}
	for k := range list {
		got, _ := impl.AfterYear(list, []int64{1})
		own := got[k].Yields
		own = own[:cap(own)]
		for i := range own {
			own[i] = 777
		}
		for i, b := range list {
			if i != k && !slices.Equal(got[i].Yields, b.Yields) {
				t.Errorf("the Yields of the beds %d and %d share memory: %v", k, i, got)
			}
		}
		if !slices.Equal(yields, []int64{1, 2, 3, 4, 5, 6}) {
			t.Fatalf("the Yields of the bed %d share memory with the argument: %v", k, yields)
		}
	}
}

// TestYearsOneByOne checks that a plan yields what its years yield one after the other, though ages are limited there.
func TestYearsOneByOne(t *testing.T) {
	for _, b := range someBeds() {
		for _, cuts := range [][]int64{nil, {0}, {11}, {0, 1, 11}, {5, 11}, {2, 3, 9}} {
			sum, now := int64(0), []impl.Bed{b}
			for year := range int64(12) {
				var cut []int64
				if slices.Contains(cuts, year) {
					yield, _ := impl.YieldNow(now[0])
					sum += yield
					cut = []int64{0}
				}
				now, _ = impl.AfterYear(now, cut)
			}
			if got, code := impl.YieldOfPlan(b, cuts, 12); got != sum || code != impl.OK {
				t.Errorf("YieldOfPlan(%v, %v, 12) = %d, %d, but year by year %d", b, cuts, got, code, sum)
			}
		}
	}
}

func TestSameBeds(t *testing.T) {
	lists := append([][]impl.Bed{{bed(0, 1, 2), bed(1, 3)}, {bed(0, 1), bed(1, 2, 3)}, {bed(1, 1, 2), bed(0, 3)}, {bed(1, 3), bed(0, 1, 2)}}, noBedLists()...)
	lists = append(lists, nil, slices.Repeat([]impl.Bed{bed(7, 1, 2)}, 100), slices.Repeat([]impl.Bed{bed(7, 1, 2)}, 99))
	for i, a := range lists {
		for k, b := range lists {
			copied := make([]impl.Bed, len(b))
			for n, x := range b {
				copied[n] = bed(x.Age, slices.Clone(x.Yields)...)
			}
			if got := impl.SameBeds(a, copied); got != (i == k) {
				t.Errorf("SameBeds(%v, %v) = %v", a, copied, got)
			}
		}
	}
	if !impl.SameBeds(nil, []impl.Bed{}) || !impl.SameBeds([]impl.Bed{{}}, []impl.Bed{{Yields: []int64{}}}) {
		t.Error("nil slices and empty ones are equal")
	}
}

// steady returns the greatest need by trying all ways of cutting beds.
func steady(list []impl.Bed, years int64) int64 {
	if years == 0 {
		return math.MaxInt64
	}
	best := int64(0)
	for mask := range 1 << len(list) {
		sum, later := int64(0), slices.Clone(list)
		for i, b := range list {
			if mask>>i&1 == 1 {
				sum += yieldAt(b, b.Age)
				later[i].Age = 0
			}
			later[i].Age++
		}
		best = max(best, min(sum, steady(later, years-1)))
	}
	return best
}

func TestSteadyNeed(t *testing.T) {
	for _, list := range bedLists() {
		for years := int64(1); years <= 3 && len(list) <= 4; years++ {
			want := steady(list, years)
			if got, code := impl.SteadyNeed(list, years); got != want || code != impl.OK {
				t.Fatalf("SteadyNeed(%v, %d) = %d, %d, want %d", list, years, got, code, want)
			}
		}
	}
}

func TestSteadyNeedByHand(t *testing.T) {
	cases := []struct {
		name  string
		list  []impl.Bed
		years int64
		want  int64
	}{
		{"both beds each year", []impl.Bed{bed(1, 10, 30), bed(1, 25)}, 2, 35},
		{"one bed", []impl.Bed{bed(1, 10, 30)}, 2, 10},
		{"one year", []impl.Bed{bed(2, 10, 30)}, 1, 30},
		{"no beds", nil, 3, 0},
		{"nothing in the first year", []impl.Bed{bed(0, 10, 30)}, 3, 0},
		{"a bed for each year", []impl.Bed{bed(1, 0, 20), bed(2, 0, 20)}, 2, 20},
		{"a year too many", []impl.Bed{bed(1, 0, 0, 20), bed(3, 0, 0, 20)}, 3, 0},
		{"a bed for each of three years", []impl.Bed{bed(3, 0, 0, 9), bed(2, 0, 0, 9), bed(1, 0, 0, 9)}, 3, 9},
		{"not the greatest yield at once", []impl.Bed{bed(1, 10, 30), bed(2, 10, 30)}, 2, 30},
		{"the third year counts", []impl.Bed{bed(2, 0, 30), bed(2, 0, 30)}, 3, 30},
		{"the most of all", slices.Repeat([]impl.Bed{bed(1, 10000)}, 4), 3, 40000},
	}
	for _, c := range cases {
		if got, code := impl.SteadyNeed(c.list, c.years); got != c.want || code != impl.OK {
			t.Errorf("%s: SteadyNeed = %d, %d, want %d", c.name, got, code, c.want)
		}
	}
}

func TestSteadyNeedErrors(t *testing.T) {
	five := slices.Repeat([]impl.Bed{bed(1, 10, 30)}, 5)
	for _, years := range []int64{0, -1, 4, 12, math.MinInt64, math.MaxInt64} {
		for _, list := range [][]impl.Bed{nil, five[:1], five[:4], five} {
			if got, code := impl.SteadyNeed(list, years); got != 0 || code != impl.ErrRange {
				t.Errorf("SteadyNeed(%v, %d) = %d, %d", list, years, got, code)
			}
		}
	}
	for years := int64(1); years <= 3; years++ {
		for _, list := range [][]impl.Bed{five, slices.Repeat(five[:1], 8)} {
			if got, code := impl.SteadyNeed(list, years); got != 0 || code != impl.ErrFull {
				t.Errorf("SteadyNeed of %d beds for %d years = %d, %d", len(list), years, got, code)
			}
		}
	}
	for _, list := range noBedLists() {
		for _, years := range []int64{1, 3, 0, 4} {
			if got, code := impl.SteadyNeed(list, years); got != 0 || code != impl.ErrInvalid {
				t.Errorf("SteadyNeed(%v, %d) = %d, %d", list, years, got, code)
			}
		}
	}
}
