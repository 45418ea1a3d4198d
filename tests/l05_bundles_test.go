package tests

import (
	"math"
	"math/big"
	"math/rand"
	"slices"
	"testing"

	"loop.example/g01064/impl"
)

func bunch(length, girth, weight int64) impl.Bunch {
	return impl.Bunch{Length: length, Girth: girth, Weight: weight}
}

// someBunches returns valid bundles, among them those at the limits, and many of a few lengths and weights.
func someBunches() []impl.Bunch {
	bunches := []impl.Bunch{
		bunch(1200, 400, 900), bunch(900, 300, 700), bunch(1200, 350, 500), bunch(100, 10, 1), bunch(3000, 2000, 50000), bunch(100, 2000, 1),
		bunch(3000, 10, 1), bunch(100, 10, 50000), bunch(1200, 400, 900), bunch(1200, 401, 900),
	}
	source := rand.New(rand.NewSource(5))
	for range 110 {
		// Few weights make many loads equally heavy.
		most := []int64{2, 5, 12, 50000}[source.Intn(4)]
		bunches = append(bunches, bunch(100+100*source.Int63n(4), 10+source.Int63n(1991), 1+source.Int63n(most)))
	}
	return bunches
}

// noBunches returns bundles each of which breaks one rule.
func noBunches() []impl.Bunch {
	return []impl.Bunch{
		{}, bunch(99, 400, 900), bunch(3001, 400, 900), bunch(0, 400, 900), bunch(-1200, 400, 900),
		bunch(1200, 9, 900), bunch(1200, 2001, 900), bunch(1200, 0, 900), bunch(1200, -400, 900),
		bunch(1200, 400, 0), bunch(1200, 400, 50001), bunch(1200, 400, -900),
		bunch(math.MaxInt64, 400, 900), bunch(1200, math.MaxInt64, 900), bunch(1200, 400, math.MaxInt64),
		bunch(math.MinInt64, 400, 900), bunch(1200, math.MinInt64, 900), bunch(1200, 400, math.MinInt64),
	}
}

// bunchLists returns valid lists of 0 to 30 bundles.
func bunchLists() [][]impl.Bunch {
	all := someBunches()
	lists := [][]impl.Bunch{
		nil, {}, all[:3], slices.Repeat([]impl.Bunch{bunch(3000, 2000, 50000)}, 30), slices.Repeat([]impl.Bunch{bunch(1200, 400, 900)}, 30),
		slices.Repeat([]impl.Bunch{bunch(1200, 400, 900)}, 10),
	}
	for i := range all {
		lists = append(lists, all[i:min(i+1+i%30, len(all))])
	}
	return lists
}

// noBunchLists returns lists that are not valid, among them one that is only too long.
func noBunchLists() [][]impl.Bunch {
	lists := [][]impl.Bunch{slices.Repeat([]impl.Bunch{bunch(1200, 400, 900)}, 31), slices.Repeat([]impl.Bunch{bunch(1200, 400, 900)}, 500)}
	for _, x := range noBunches() {
		lists = append(lists, []impl.Bunch{x}, []impl.Bunch{bunch(1200, 400, 900), x}, []impl.Bunch{x, bunch(900, 300, 700), bunch(1200, 350, 500)})
		lists = append(lists, append(slices.Repeat([]impl.Bunch{bunch(1200, 400, 900)}, 11), x))
	}
	return lists
}

// girths returns the girths that a bundle may have, in ascending order.
func girths() []int64 {
	var all []int64
	for girth := int64(10); girth <= 2000; girth++ {
		all = append(all, girth)
	}
	return all
}

// fits reports whether a bundle with the girth has at least so many rods: rods <= 44100 * girth * girth / (4840 * thick * thick).
func fits(rods, girth, thick int64) bool { return rods*4840*thick*thick <= 44100*girth*girth }

func TestBunchLimits(t *testing.T) {
	got := []int64{impl.MaxBunches, impl.MaxGirth, impl.MaxHeavy}
	if want := []int64{30, 2000, 50000}; !slices.Equal(got, want) {
		t.Errorf("the limits are %v, want %v", got, want)
	}
}

func TestValidBunches(t *testing.T) {
	for _, list := range bunchLists() {
		if !impl.ValidBunches(list) {
			t.Errorf("%v is valid", list)
		}
	}
	for _, list := range noBunchLists() {
		if impl.ValidBunches(list) {
			t.Errorf("%v is not valid", list)
		}
	}
}

func TestSameBunches(t *testing.T) {
	x := bunch(1, 2, 3)
	lists := [][]impl.Bunch{
		nil, {x}, {x, x}, {bunch(0, 2, 3)}, {bunch(1, 0, 3)}, {bunch(1, 2, 0)}, {{}}, {{}, {}}, {x, bunch(3, 2, 1)}, {bunch(3, 2, 1), x},
		slices.Repeat([]impl.Bunch{x}, 100), slices.Repeat([]impl.Bunch{x}, 99), {bunch(math.MinInt64, math.MaxInt64, -1)},
	}
	for i, a := range lists {
		for k, c := range lists {
			if got := impl.SameBunches(a, slices.Clone(c)); got != (i == k) {
				t.Errorf("SameBunches(%v, %v) = %v", a, c, got)
			}
		}
	}
	if !impl.SameBunches(nil, []impl.Bunch{}) || !impl.SameBunches([]impl.Bunch{}, nil) {
		t.Error("a nil list and an empty one are equal")
	}
}

func TestAreaOf(t *testing.T) {
	for _, girth := range girths() {
		// A big.Rat is always in lowest terms.
		want := big.NewRat(7*girth*girth, 88)
		got, code := impl.AreaOf(girth)
		if got != (impl.Fraction{Num: want.Num().Int64(), Den: want.Denom().Int64()}) || code != impl.OK {
			t.Fatalf("AreaOf(%d) = %v, %d, want %v", girth, got, code, want)
		}
	}
	byHand := map[int64]impl.Fraction{
		220: {Num: 3850, Den: 1}, 10: {Num: 175, Den: 22}, 11: {Num: 77, Den: 8}, 22: {Num: 77, Den: 2}, 44: {Num: 154, Den: 1}, 13: {Num: 1183, Den: 88},
		2000: {Num: 3500000, Den: 11},
	}
	for girth, want := range byHand {
		if got, code := impl.AreaOf(girth); got != want || code != impl.OK {
			t.Errorf("AreaOf(%d) = %v, %d, want %v", girth, got, code, want)
		}
	}
	for _, girth := range []int64{9, 2001, 0, -1, -220, math.MinInt64, math.MaxInt64} {
		if got, code := impl.AreaOf(girth); got != (impl.Fraction{}) || code != impl.ErrRange {
			t.Errorf("AreaOf(%d) = %v, %d", girth, got, code)
		}
	}
}

// TestRodsIn checks that what is left over of a bundle is less than a rod.
func TestRodsIn(t *testing.T) {
	for _, girth := range girths() {
		for thick := int64(1); thick <= 300; thick++ {
			n, code := impl.RodsIn(girth, thick)
			if code != impl.OK || n < 0 || !fits(n, girth, thick) || fits(n+1, girth, thick) {
				t.Fatalf("RodsIn(%d, %d) = %d, %d", girth, thick, n, code)
			}
		}
	}
}

func TestRodsInByHand(t *testing.T) {
	cases := []struct{ girth, thick, want int64 }{
		{220, 100, 44}, {10, 1, 911}, {10, 30, 1}, {10, 31, 0}, {10, 300, 0}, {99, 300, 0}, {100, 300, 1}, {2000, 300, 404}, {2000, 1, 36446280},
		// 9.11.. times the square of 22 is 4410, so nothing is left over.
		{22, 1, 4410}, {22, 7, 90}, {220, 21, 1000},
	}
	for _, c := range cases {
		if got, code := impl.RodsIn(c.girth, c.thick); got != c.want || code != impl.OK {
			t.Errorf("RodsIn(%d, %d) = %d, %d, want %d", c.girth, c.thick, got, code, c.want)
		}
	}
	for _, bad := range []int64{math.MinInt64, -100, -1, 0, 2001, 2002, math.MaxInt64} {
		for _, pair := range [][2]int64{{bad, 100}, {220, bad}, {bad, bad}} {
			if got, code := impl.RodsIn(pair[0], pair[1]); got != 0 || code != impl.ErrRange {
				t.Errorf("RodsIn%v = %d, %d", pair, got, code)
			}
		}
	}
	for _, pair := range [][2]int64{{9, 100}, {220, 301}, {9, 301}} {
		if got, code := impl.RodsIn(pair[0], pair[1]); got != 0 || code != impl.ErrRange {
			t.Errorf("RodsIn%v = %d, %d", pair, got, code)
		}
	}
}

// checkPromise5 checks that the least girth has room for the rods, and the one below it has not.
func checkPromise5(t *testing.T, rods, thick int64) {
	t.Helper()
	girth, code := impl.GirthFor(rods, thick)
	if !fits(rods, impl.MaxGirth, thick) {
		if girth != 0 || code != impl.ErrNotFound {
			t.Fatalf("GirthFor(%d, %d) = %d, %d, but no girth has room", rods, thick, girth, code)
		}
		return
	}
	if code != impl.OK || girth < 10 || girth > impl.MaxGirth {
		t.Fatalf("GirthFor(%d, %d) = %d, %d", rods, thick, girth, code)
	}
	if n, code := impl.RodsIn(girth, thick); n < rods || code != impl.OK || !fits(rods, girth, thick) {
		t.Fatalf("GirthFor(%d, %d) = %d, which has only %d, %d rods", rods, thick, girth, n, code)
	}
	if girth > 10 && fits(rods, girth-1, thick) {
		t.Fatalf("GirthFor(%d, %d) = %d, but %d has room as well", rods, thick, girth, girth-1)
	}
}

func TestGirthFor(t *testing.T) {
	for thick := int64(1); thick <= 300; thick++ {
		for _, rods := range []int64{1, 2, 3, 10, 44, 45, 404, 405, 911, 912, 1000, 4410, 4411, 36446, 99999, 100000} {
			checkPromise5(t, rods, thick)
		}
	}
}

// TestGirthForJustFullBundles takes as many rods as a bundle has, and one more.
func TestGirthForJustFullBundles(t *testing.T) {
	for _, thick := range []int64{1, 2, 7, 21, 30, 31, 60, 61, 99, 100, 101, 250, 299, 300} {
		for _, girth := range girths() {
			n, _ := impl.RodsIn(girth, thick)
			for _, rods := range []int64{n, n + 1} {
				if rods >= 1 && rods <= 100000 {
					checkPromise5(t, rods, thick)
				}
			}
		}
	}
}

func TestGirthForByHand(t *testing.T) {
	cases := []struct{ rods, thick, girth, code int64 }{
		{44, 100, 220, impl.OK}, {45, 100, 223, impl.OK}, {1, 1, 10, impl.OK}, {911, 1, 10, impl.OK}, {912, 1, 11, impl.OK},
		{1, 30, 10, impl.OK}, {1, 31, 11, impl.OK}, {1, 300, 100, impl.OK}, {404, 300, 1998, impl.OK}, {405, 300, 0, impl.ErrNotFound},
		{4410, 1, 22, impl.OK}, {4411, 1, 23, impl.OK}, {1000, 21, 220, impl.OK}, {1001, 21, 221, impl.OK},
		{100000, 1, 105, impl.OK}, {100000, 19, 1991, impl.OK}, {100000, 20, 0, impl.ErrNotFound}, {100000, 300, 0, impl.ErrNotFound},
		{0, 100, 0, impl.ErrRange}, {-1, 100, 0, impl.ErrRange}, {100001, 100, 0, impl.ErrRange}, {100001, 1, 0, impl.ErrRange},
		{44, 0, 0, impl.ErrRange}, {44, -100, 0, impl.ErrRange}, {44, 301, 0, impl.ErrRange}, {100000, 301, 0, impl.ErrRange},
		{math.MinInt64, 100, 0, impl.ErrRange}, {math.MaxInt64, 100, 0, impl.ErrRange}, {44, math.MinInt64, 0, impl.ErrRange}, {44, math.MaxInt64, 0, impl.ErrRange},
	}
	for _, c := range cases {
		if girth, code := impl.GirthFor(c.rods, c.thick); girth != c.girth || code != c.code {
			t.Errorf("GirthFor(%d, %d) = %d, %d, want %d, %d", c.rods, c.thick, girth, code, c.girth, c.code)
		}
	}
}

// byLengthAndWeight sorts bundles as SortBunches does: each one is put in behind all that are not greater.
func byLengthAndWeight(list []impl.Bunch) []impl.Bunch {
	var sorted []impl.Bunch
	for _, x := range list {
		place := len(sorted)
		for place > 0 && (sorted[place-1].Length > x.Length || sorted[place-1].Length == x.Length && sorted[place-1].Weight > x.Weight) {
			place--
		}
		sorted = slices.Insert(sorted, place, x)
	}
	return sorted
}

func TestSortBunches(t *testing.T) {
	for _, list := range bunchLists() {
		want := byLengthAndWeight(list)
		if got, code := impl.SortBunches(list); !slices.Equal(got, want) || code != impl.OK {
			t.Fatalf("SortBunches(%v) = %v, %d, want %v", list, got, code, want)
		}
	}
	for _, list := range noBunchLists() {
		if got, code := impl.SortBunches(list); len(got) != 0 || code != impl.ErrInvalid {
			t.Errorf("SortBunches(%v) = %v, %d", list, got, code)
		}
	}
}

func TestSortBunchesByHand(t *testing.T) {
	cases := []struct {
		name       string
		list, want []impl.Bunch
	}{
		{"no bundles", nil, nil},
		{"by Length", []impl.Bunch{bunch(1200, 10, 1), bunch(900, 20, 2)}, []impl.Bunch{bunch(900, 20, 2), bunch(1200, 10, 1)}},
		{"then by Weight", []impl.Bunch{bunch(900, 10, 2), bunch(900, 20, 1)}, []impl.Bunch{bunch(900, 20, 1), bunch(900, 10, 2)}},
		{"Girth plays no part", []impl.Bunch{bunch(900, 20, 2), bunch(900, 10, 2), bunch(900, 30, 2)}, []impl.Bunch{bunch(900, 20, 2), bunch(900, 10, 2), bunch(900, 30, 2)}},
	}
	for _, c := range cases {
		if got, code := impl.SortBunches(c.list); !slices.Equal(got, c.want) || code != impl.OK {
			t.Errorf("%s: SortBunches = %v, %d, want %v", c.name, got, code, c.want)
		}
	}
	// A sort that is not stable shows only in lists longer than those it sorts by insertion.
	var shorter, longer, mixed []impl.Bunch
	for n := range int64(15) {
		shorter = append(shorter, bunch(800, 10+n, 5))
		longer = append(longer, bunch(900, 10+n, 5))
		mixed = append(mixed, longer[n], shorter[n])
	}
	if got, code := impl.SortBunches(mixed); !slices.Equal(got, slices.Concat(shorter, longer)) || code != impl.OK {
		t.Errorf("SortBunches of 30 bundles = %v, %d", got, code)
	}
}

func TestWeightOfLength(t *testing.T) {
	for _, list := range bunchLists() {
		sums := map[int64]int64{100: 0, 101: 0, 199: 0, 500: 0, 3000: 0}
		for _, x := range list {
			sums[x.Length] += x.Weight
		}
		for length, want := range sums {
			if got, code := impl.WeightOfLength(list, length); got != want || code != impl.OK {
				t.Fatalf("WeightOfLength(%v, %d) = %d, %d, want %d", list, length, got, code, want)
			}
		}
	}
	all := slices.Repeat([]impl.Bunch{bunch(3000, 2000, 50000)}, 30)
	if got, code := impl.WeightOfLength(all, 3000); got != 1500000 || code != impl.OK {
		t.Errorf("WeightOfLength of 30 bundles = %d, %d", got, code)
	}
	for _, length := range []int64{99, 3001, 0, -1200, math.MinInt64, math.MaxInt64} {
		for _, list := range [][]impl.Bunch{nil, all} {
			if got, code := impl.WeightOfLength(list, length); got != 0 || code != impl.ErrRange {
				t.Errorf("WeightOfLength(%v, %d) = %d, %d", list, length, got, code)
			}
		}
	}
	for _, list := range noBunchLists() {
		for _, length := range []int64{1200, 100, 99, 3001} {
			if got, code := impl.WeightOfLength(list, length); got != 0 || code != impl.ErrInvalid {
				t.Errorf("WeightOfLength(%v, %d) = %d, %d", list, length, got, code)
			}
		}
	}
}

// heaviest takes the heaviest bundle that is left over, again and again, the first one of several, and returns all that are taken in ascending order.
func heaviest(list []impl.Bunch, need int64) ([]int64, int64) {
	var taken []int64
	sum := int64(0)
	for sum < need {
		next := int64(-1)
		for i, x := range list {
			if !slices.Contains(taken, int64(i)) && (next < 0 || x.Weight > list[next].Weight) {
				next = int64(i)
			}
		}
		if next < 0 {
			return nil, impl.ErrNotFound
		}
		taken = append(taken, next)
		sum += list[next].Weight
	}
	slices.Sort(taken)
	return taken, impl.OK
}

func TestFewestBunches(t *testing.T) {
	codes := map[int64]int{}
	for _, list := range bunchLists() {
		total := int64(0)
		needs := []int64{0, 1, 2, 3, 5, 10, 100, 49999, 50000, 50001, 999999, 1000000}
		for _, x := range list {
			total += x.Weight
			needs = append(needs, x.Weight, total-1, total, total+1)
		}
		for _, need := range needs {
			if need < 0 || need > 1000000 {
				continue
			}
			want, wantCode := heaviest(list, need)
			if got, code := impl.FewestBunches(list, need); !slices.Equal(got, want) || code != wantCode {
				t.Fatalf("FewestBunches(%v, %d) = %v, %d, want %v, %d", list, need, got, code, want, wantCode)
			}
			codes[wantCode]++
		}
	}
	if codes[impl.OK] < 100 || codes[impl.ErrNotFound] < 100 {
		t.Errorf("too few calls have each code: %v", codes)
	}
}

func TestFewestBunchesByHand(t *testing.T) {
	three := []impl.Bunch{bunch(1200, 400, 900), bunch(900, 300, 700), bunch(1200, 350, 500)}
	heavy := slices.Repeat([]impl.Bunch{bunch(3000, 2000, 50000)}, 30)
	cases := []struct {
		name string
		list []impl.Bunch
		need int64
		want []int64
		code int64
	}{
		{"no need", three, 0, nil, impl.OK},
		{"no need and no bundles", nil, 0, nil, impl.OK},
		{"a need and no bundles", nil, 1, nil, impl.ErrNotFound},
		{"one is just enough", three, 900, []int64{0}, impl.OK},
		{"one is not enough", three, 901, []int64{0, 1}, impl.OK},
		{"a lighter one would do", three, 500, []int64{0}, impl.OK},
		{"just all", three, 2100, []int64{0, 1, 2}, impl.OK},
		{"one gram more than all", three, 2101, nil, impl.ErrNotFound},
		{"the heaviest one is the last one", []impl.Bunch{three[2], three[1], three[0]}, 1000, []int64{1, 2}, impl.OK},
		{"the first ones of one Weight", []impl.Bunch{bunch(900, 10, 5), bunch(100, 30, 5), bunch(900, 20, 5)}, 10, []int64{0, 1}, impl.OK},
		{"the first ones of one Weight behind a heavier one", []impl.Bunch{bunch(900, 10, 5), bunch(100, 30, 5), bunch(900, 20, 9)}, 10, []int64{0, 2}, impl.OK},
		{"the most that may be asked", heavy, 1000000, []int64{0, 1, 2, 3, 4, 5, 6, 7, 8, 9, 10, 11, 12, 13, 14, 15, 16, 17, 18, 19}, impl.OK},
		{"just 19 of them", heavy, 950000, []int64{0, 1, 2, 3, 4, 5, 6, 7, 8, 9, 10, 11, 12, 13, 14, 15, 16, 17, 18}, impl.OK},
		{"one too many", three, 1000001, nil, impl.ErrRange},
		{"less than nothing", three, -1, nil, impl.ErrRange},
		{"the least number", three, math.MinInt64, nil, impl.ErrRange},
		{"the greatest number", heavy, math.MaxInt64, nil, impl.ErrRange},
		{"one too many of no bundles", nil, 1000001, nil, impl.ErrRange},
	}
	for _, c := range cases {
		if got, code := impl.FewestBunches(c.list, c.need); !slices.Equal(got, c.want) || code != c.code {
			t.Errorf("%s: FewestBunches = %v, %d, want %v, %d", c.name, got, code, c.want, c.code)
		}
	}
	var rising []impl.Bunch
	for n := range int64(30) {
		rising = append(rising, bunch(900, 10, n+1))
	}
	if got, code := impl.FewestBunches(rising, 59); !slices.Equal(got, []int64{28, 29}) || code != impl.OK {
		t.Errorf("the last two of thirty: FewestBunches = %v, %d", got, code)
	}
	for _, list := range noBunchLists() {
		for _, need := range []int64{0, 1, 1000000, 1000001, -1} {
			if got, code := impl.FewestBunches(list, need); len(got) != 0 || code != impl.ErrInvalid {
				t.Errorf("FewestBunches(%v, %d) = %v, %d", list, need, got, code)
			}
		}
	}
}

// checkFitCart checks the told load against all lists of indices, given in the order in which the document prefers them.
func checkFitCart(t *testing.T, list []impl.Bunch, bears int64, all [][]int64) {
	t.Helper()
	var best []int64
	most := int64(-1)
	for _, load := range all {
		sum := int64(0)
		for _, i := range load {
			sum += list[i].Weight
		}
		if sum <= bears && sum > most {
			best, most = load, sum
		}
	}
	if got, sum, code := impl.FitCart(list, bears); !slices.Equal(got, best) || sum != most || code != impl.OK {
		t.Fatalf("FitCart(%v, %d) = %v, %d, %d, want %v, %d", list, bears, got, sum, code, best, most)
	}
}

func TestFitCart(t *testing.T) {
	for _, list := range bunchLists() {
		if len(list) > 10 {
			list = list[:10]
		}
		all := plans(int64(len(list)))
		total := int64(0)
		bears := []int64{0, 1, 2, 3, 4, 5, 7, 10, 15, 20, 30, 1000, 49999, 50000, 123456, 1000000}
		for _, x := range list {
			total += x.Weight
			bears = append(bears, total-1, total, total+1)
		}
		for _, b := range bears {
			checkFitCart(t, list, b, all)
		}
	}
}

// TestFitCartOfSmallBundles takes all lists of five bundles with weights up to 4, which have most of the ties.
func TestFitCartOfSmallBundles(t *testing.T) {
	all := plans(5)
	for n := range int64(1024) {
		list := []impl.Bunch{bunch(900, 10, 1+n%4), bunch(900, 10, 1+n/4%4), bunch(900, 10, 1+n/16%4), bunch(900, 10, 1+n/64%4), bunch(900, 10, 1+n/256)}
		for bears := range int64(21) {
			checkFitCart(t, list, bears, all)
		}
	}
}

func TestFitCartByHand(t *testing.T) {
	of := func(weights ...int64) []impl.Bunch {
		var list []impl.Bunch
		for k, w := range weights {
			list = append(list, bunch(3000-100*int64(k), 10, w))
		}
		return list
	}
	cases := []struct {
		name  string
		list  []impl.Bunch
		bears int64
		want  []int64
		sum   int64
	}{
		{"two that leave 100 over", of(900, 700, 500), 1300, []int64{1, 2}, 1200},
		{"none is light enough", of(900, 700, 500), 400, nil, 0},
		{"one that is just borne", of(900, 700, 500), 500, []int64{2}, 500},
		{"one gram too heavy", of(900, 700, 500), 499, nil, 0},
		{"all of them, with much left over", of(900, 700, 500), 1000000, []int64{0, 1, 2}, 2100},
		{"no bundles", nil, 1000, nil, 0},
		{"a cart that bears nothing", of(900), 0, nil, 0},
		{"the shortest one of two", of(1, 2, 3), 3, []int64{2}, 3},
		{"the first one of two", of(1, 4, 2, 3), 5, []int64{0, 1}, 5},
		{"the first one of equal bundles", of(5, 5, 5), 5, []int64{0}, 5},
		{"the first two of equal bundles", of(5, 5, 5), 14, []int64{0, 1}, 10},
		{"the heaviest one is not taken", of(6, 5, 4), 9, []int64{1, 2}, 9},
		{"a short list before a first one", of(1, 1, 1, 3), 3, []int64{3}, 3},
		{"ten of them", of(1, 2, 4, 8, 16, 32, 64, 128, 256, 512), 1023, []int64{0, 1, 2, 3, 4, 5, 6, 7, 8, 9}, 1023},
		{"the bits of a number", of(1, 2, 4, 8, 16, 32, 64, 128, 256, 512), 677, []int64{0, 2, 5, 7, 9}, 677},
	}
	for _, c := range cases {
		if got, sum, code := impl.FitCart(c.list, c.bears); !slices.Equal(got, c.want) || sum != c.sum || code != impl.OK {
			t.Errorf("%s: FitCart = %v, %d, %d, want %v, %d", c.name, got, sum, code, c.want, c.sum)
		}
	}
}

func TestFitCartErrors(t *testing.T) {
	eleven := slices.Repeat([]impl.Bunch{bunch(1200, 400, 900)}, 11)
	for _, list := range [][]impl.Bunch{eleven, slices.Repeat(eleven[:1], 30), slices.Repeat(eleven[:1], 12)} {
		for _, bears := range []int64{0, 1000, 1000000} {
			if got, sum, code := impl.FitCart(list, bears); len(got) != 0 || sum != 0 || code != impl.ErrFull {
				t.Errorf("FitCart of %d bundles = %v, %d, %d", len(list), got, sum, code)
			}
		}
	}
	for _, bears := range []int64{-1, 1000001, math.MinInt64, math.MaxInt64} {
		for _, list := range [][]impl.Bunch{nil, eleven[:3], eleven[:10], eleven} {
			if got, sum, code := impl.FitCart(list, bears); len(got) != 0 || sum != 0 || code != impl.ErrRange {
				t.Errorf("FitCart of %d bundles for %d = %v, %d, %d", len(list), bears, got, sum, code)
			}
		}
	}
	for _, list := range noBunchLists() {
		for _, bears := range []int64{0, 1000, 1000000, 1000001, -1} {
			if got, sum, code := impl.FitCart(list, bears); len(got) != 0 || sum != 0 || code != impl.ErrInvalid {
				t.Errorf("FitCart(%v, %d) = %v, %d, %d", list, bears, got, sum, code)
			}
		}
	}
}

func TestBunchText(t *testing.T) {
	cases := map[string]impl.Bunch{
		"900 mm, girth 300, 700 g": bunch(900, 300, 700), "1200 mm, girth 400, 900 g": bunch(1200, 400, 900),
		"100 mm, girth 10, 1 g": bunch(100, 10, 1), "3000 mm, girth 2000, 50000 g": bunch(3000, 2000, 50000),
	}
	for text, x := range cases {
		if got := impl.BunchText(x); got != text {
			t.Errorf("BunchText(%v) = %q, want %q", x, got, text)
		}
	}
	for _, x := range noBunches() {
		if got := impl.BunchText(x); got != "" {
			t.Errorf("BunchText(%v) = %q", x, got)
		}
	}
}
