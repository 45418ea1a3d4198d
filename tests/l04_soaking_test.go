package tests

import (
	"math"
	"math/rand"
	"slices"
	"testing"

	"loop.example/g01064/impl"
)

func batch(start, soaks, supple, bundles int64) impl.Batch {
	return impl.Batch{Start: start, Soaks: soaks, Supple: supple, Bundles: bundles}
}

// someBatches returns valid batches, among them those at the limits, and many small ones that meet each other.
func someBatches() []impl.Batch {
	batches := []impl.Batch{
		batch(0, 10, 5, 4), batch(0, 1, 1, 1), batch(5000, 500, 500, 100), batch(0, 500, 1, 100), batch(5000, 1, 500, 1),
		batch(3, 2, 1, 2), batch(4999, 1, 1, 60), batch(10, 10, 5, 4), batch(9, 1, 10, 5), batch(4500, 500, 499, 40),
	}
	source := rand.New(rand.NewSource(4))
	for range 90 {
		// Small numbers make many hours at which one batch ends and another one begins.
		most := []int64{4, 12, 500}[source.Intn(3)]
		start := source.Int63n(most)
		if source.Intn(8) == 0 {
			start = 5000 - start
		}
		batches = append(batches, batch(start, 1+source.Int63n(most), 1+source.Int63n(most), 1+source.Int63n([]int64{3, 10, 100}[source.Intn(3)])))
	}
	return batches
}

// noBatches returns batches each of which breaks one rule.
func noBatches() []impl.Batch {
	return []impl.Batch{
		{}, batch(-1, 10, 5, 4), batch(5001, 10, 5, 4), batch(0, 0, 5, 4), batch(0, 501, 5, 4), batch(0, -10, 5, 4),
		batch(0, 10, 0, 4), batch(0, 10, 501, 4), batch(0, 10, -5, 4), batch(0, 10, 5, 0), batch(0, 10, 5, 101), batch(0, 10, 5, -4),
		batch(math.MinInt64, 10, 5, 4), batch(math.MaxInt64, 10, 5, 4), batch(0, math.MaxInt64, 5, 4), batch(0, 10, math.MaxInt64, 4), batch(0, 10, 5, math.MaxInt64),
		batch(math.MaxInt64, math.MaxInt64, math.MaxInt64, math.MaxInt64), batch(math.MinInt64, math.MinInt64, math.MinInt64, math.MinInt64),
	}
}

// batchLists returns valid lists of 0 to 10 batches.
func batchLists() [][]impl.Batch {
	all := someBatches()
	lists := [][]impl.Batch{nil, {}, {all[0], all[0]}, slices.Repeat([]impl.Batch{batch(5000, 500, 500, 100)}, 10), slices.Repeat([]impl.Batch{batch(0, 1, 1, 1)}, 10)}
	for i := range all {
		lists = append(lists, all[i:min(i+1+i%10, len(all))])
	}
	return lists
}

// noBatchLists returns lists that are not valid, among them one that is only too long.
func noBatchLists() [][]impl.Batch {
	lists := [][]impl.Batch{slices.Repeat([]impl.Batch{batch(0, 10, 5, 4)}, 11), slices.Repeat([]impl.Batch{batch(0, 10, 5, 4)}, 500)}
	for _, b := range noBatches() {
		lists = append(lists, []impl.Batch{b}, []impl.Batch{batch(0, 10, 5, 4), b}, []impl.Batch{b, batch(0, 10, 5, 4), batch(7, 1, 1, 1)})
	}
	return lists
}

// lastHour is behind all hours at which valid batches are in the tank or supple.
const lastHour = 6100

// tankHours counts, hour by hour, the bundles in the tank.
func tankHours(list []impl.Batch) []int64 {
	counts := make([]int64, lastHour)
	for _, b := range list {
		for hour := b.Start; hour <= b.Start+b.Soaks-1; hour++ {
			counts[hour] += b.Bundles
		}
	}
	return counts
}

// suppleHours counts, hour by hour, the supple bundles.
func suppleHours(list []impl.Batch) []int64 {
	counts := make([]int64, lastHour)
	for _, b := range list {
		for hour := b.Start + b.Soaks; hour <= b.Start+b.Soaks+b.Supple-1; hour++ {
			counts[hour] += b.Bundles
		}
	}
	return counts
}

func TestBatchLimits(t *testing.T) {
	got := []int64{impl.MaxBatches, impl.MaxSoakH, impl.MaxHourS, impl.MaxTankB}
	if want := []int64{10, 500, 5000, 100}; !slices.Equal(got, want) {
		t.Errorf("the limits are %v, want %v", got, want)
	}
}

func TestValidBatches(t *testing.T) {
	for _, list := range batchLists() {
		if !impl.ValidBatches(list) {
			t.Errorf("%v is valid", list)
		}
	}
	for _, list := range noBatchLists() {
		if impl.ValidBatches(list) {
			t.Errorf("%v is not valid", list)
		}
	}
}

func TestSameBatches(t *testing.T) {
	b := batch(1, 2, 3, 4)
	lists := [][]impl.Batch{
		nil, {b}, {b, b}, {batch(0, 2, 3, 4)}, {batch(1, 0, 3, 4)}, {batch(1, 2, 0, 4)}, {batch(1, 2, 3, 0)}, {{}}, {{}, {}},
		{b, batch(4, 3, 2, 1)}, {batch(4, 3, 2, 1), b}, slices.Repeat([]impl.Batch{b}, 100), slices.Repeat([]impl.Batch{b}, 99),
		{batch(math.MinInt64, math.MaxInt64, -1, 1<<40)},
	}
	for i, a := range lists {
		for k, c := range lists {
			if got := impl.SameBatches(a, slices.Clone(c)); got != (i == k) {
				t.Errorf("SameBatches(%v, %v) = %v", a, c, got)
			}
		}
	}
	if !impl.SameBatches(nil, []impl.Batch{}) || !impl.SameBatches([]impl.Batch{}, nil) {
		t.Error("a nil list and an empty one are equal")
	}
}

func TestCountsHourByHour(t *testing.T) {
	for _, list := range batchLists() {
		soaking, supple := tankHours(list), suppleHours(list)
		for hour := range int64(lastHour) {
			if got, code := impl.InTank(list, hour); got != soaking[hour] || code != impl.OK {
				t.Fatalf("InTank(%v, %d) = %d, %d, want %d", list, hour, got, code, soaking[hour])
			}
			if got, code := impl.SuppleAt(list, hour); got != supple[hour] || code != impl.OK {
				t.Fatalf("SuppleAt(%v, %d) = %d, %d, want %d", list, hour, got, code, supple[hour])
			}
		}
	}
}

func TestCountsByHand(t *testing.T) {
	list := []impl.Batch{batch(3, 10, 5, 4), batch(13, 2, 1, 30)}
	cases := []struct{ hour, soaking, supple int64 }{
		{0, 0, 0}, {2, 0, 0}, {3, 4, 0}, {12, 4, 0}, {13, 30, 4}, {14, 30, 4}, {15, 0, 34}, {16, 0, 4}, {17, 0, 4}, {18, 0, 0}, {10000, 0, 0},
	}
	for _, c := range cases {
		if got, code := impl.InTank(list, c.hour); got != c.soaking || code != impl.OK {
			t.Errorf("InTank at %d = %d, %d, want %d", c.hour, got, code, c.soaking)
		}
		if got, code := impl.SuppleAt(list, c.hour); got != c.supple || code != impl.OK {
			t.Errorf("SuppleAt at %d = %d, %d, want %d", c.hour, got, code, c.supple)
		}
	}
	most := slices.Repeat([]impl.Batch{batch(5000, 500, 500, 100)}, 10)
	if got, code := impl.InTank(most, 5499); got != 1000 || code != impl.OK {
		t.Errorf("InTank of the most = %d, %d", got, code)
	}
	if got, code := impl.SuppleAt(most, 5999); got != 1000 || code != impl.OK {
		t.Errorf("SuppleAt of the most = %d, %d", got, code)
	}
}

func TestCountErrors(t *testing.T) {
	functions := map[string]func([]impl.Batch, int64) (int64, int64){"InTank": impl.InTank, "SuppleAt": impl.SuppleAt}
	for name, function := range functions {
		for _, hour := range []int64{-1, 10001, math.MinInt64, math.MaxInt64} {
			for _, list := range [][]impl.Batch{nil, {batch(0, 10, 5, 4)}} {
				if got, code := function(list, hour); got != 0 || code != impl.ErrRange {
					t.Errorf("%s(%v, %d) = %d, %d", name, list, hour, got, code)
				}
			}
		}
		for _, list := range noBatchLists() {
			for _, hour := range []int64{0, 5, 10000, -1, 10001} {
				if got, code := function(list, hour); got != 0 || code != impl.ErrInvalid {
					t.Errorf("%s(%v, %d) = %d, %d", name, list, hour, got, code)
				}
			}
		}
	}
}

// firstAbove returns the first hour with more than so many bundles, or -1.
func firstAbove(counts []int64, room int64) int64 {
	return int64(slices.IndexFunc(counts, func(n int64) bool { return n > room }))
}

func TestFirstTooMany(t *testing.T) {
	for _, list := range batchLists() {
		counts := tankHours(list)
		for room := range int64(impl.MaxTankB) + 1 {
			want, wantCode := firstAbove(counts, room), int64(impl.OK)
			if want < 0 {
				want, wantCode = 0, impl.ErrNotFound
			}
			if got, code := impl.FirstTooMany(list, room); got != want || code != wantCode {
				t.Fatalf("FirstTooMany(%v, %d) = %d, %d, want %d, %d", list, room, got, code, want, wantCode)
			}
		}
	}
}

func TestFirstTooManyByHand(t *testing.T) {
	cases := []struct {
		name             string
		list             []impl.Batch
		room, hour, code int64
	}{
		{"no batches and no room", nil, 0, 0, impl.ErrNotFound},
		{"one batch and no room", []impl.Batch{batch(7, 10, 5, 4)}, 0, 7, impl.OK},
		{"just room", []impl.Batch{batch(7, 10, 5, 4)}, 4, 0, impl.ErrNotFound},
		{"just room for both", []impl.Batch{batch(0, 10, 5, 4), batch(5, 10, 5, 4)}, 8, 0, impl.ErrNotFound},
		{"one too many", []impl.Batch{batch(0, 10, 5, 4), batch(5, 10, 5, 4)}, 7, 5, impl.OK},
		{"one comes when the other one is just out", []impl.Batch{batch(0, 10, 5, 4), batch(10, 10, 5, 4)}, 7, 0, impl.ErrNotFound},
		{"one comes, listed first, when the other one is just out", []impl.Batch{batch(10, 10, 5, 4), batch(0, 10, 5, 4)}, 7, 0, impl.ErrNotFound},
		{"one comes in the last hour of the other one", []impl.Batch{batch(0, 10, 5, 4), batch(9, 10, 5, 4)}, 7, 9, impl.OK},
		{"both at once", []impl.Batch{batch(3, 10, 5, 4), batch(3, 1, 5, 4)}, 7, 3, impl.OK},
		{"the last hour of all", []impl.Batch{batch(5000, 500, 1, 100)}, 99, 5000, impl.OK},
		{"all the room", []impl.Batch{batch(5000, 500, 1, 100)}, 100, 0, impl.ErrNotFound},
	}
	for _, c := range cases {
		if got, code := impl.FirstTooMany(c.list, c.room); got != c.hour || code != c.code {
			t.Errorf("%s: FirstTooMany = %d, %d, want %d, %d", c.name, got, code, c.hour, c.code)
		}
	}
}

func TestFirstTooManyErrors(t *testing.T) {
	for _, room := range []int64{-1, 101, math.MinInt64, math.MaxInt64} {
		for _, list := range [][]impl.Batch{nil, {batch(0, 10, 5, 100), batch(0, 10, 5, 100)}} {
			if got, code := impl.FirstTooMany(list, room); got != 0 || code != impl.ErrRange {
				t.Errorf("FirstTooMany(%v, %d) = %d, %d", list, room, got, code)
			}
		}
	}
	for _, list := range noBatchLists() {
		for _, room := range []int64{0, 5, 100, -1, 101} {
			if got, code := impl.FirstTooMany(list, room); got != 0 || code != impl.ErrInvalid {
				t.Errorf("FirstTooMany(%v, %d) = %d, %d", list, room, got, code)
			}
		}
	}
}

// TestLatestStart checks the told Start with SuppleAt: the batch is supple at the hour with it, and not with the next Start.
func TestLatestStart(t *testing.T) {
	for _, soaks := range []int64{1, 2, 10, 499, 500} {
		for _, supple := range []int64{1, 2, 500} {
			for hour := range int64(5500) {
				start, code := impl.LatestStart(soaks, supple, hour)
				if hour < soaks {
					if start != 0 || code != impl.ErrNotFound {
						t.Fatalf("LatestStart(%d, %d, %d) = %d, %d", soaks, supple, hour, start, code)
					}
					continue
				}
				if code != impl.OK {
					t.Fatalf("LatestStart(%d, %d, %d): code %d", soaks, supple, hour, code)
				}
				if start >= impl.MaxHourS {
					break
				}
				now, _ := impl.SuppleAt([]impl.Batch{batch(start, soaks, supple, 1)}, hour)
				later, _ := impl.SuppleAt([]impl.Batch{batch(start+1, soaks, supple, 1)}, hour)
				if now != 1 || later != 0 {
					t.Fatalf("LatestStart(%d, %d, %d) = %d: %d are supple, and an hour later %d", soaks, supple, hour, start, now, later)
				}
			}
		}
	}
}

func TestLatestStartByHand(t *testing.T) {
	cases := []struct{ soaks, supple, hour, start, code int64 }{
		{10, 5, 30, 20, impl.OK}, {10, 5, 10, 0, impl.OK}, {10, 5, 9, 0, impl.ErrNotFound}, {1, 1, 0, 0, impl.ErrNotFound}, {1, 1, 1, 0, impl.OK},
		{500, 500, 499, 0, impl.ErrNotFound}, {500, 500, 500, 0, impl.OK}, {500, 1, 5500, 5000, impl.OK},
		{500, 500, 10000, 9500, impl.OK}, {1, 1, 10000, 9999, impl.OK},
		{0, 5, 30, 0, impl.ErrRange}, {501, 5, 1000, 0, impl.ErrRange}, {501, 5, 30, 0, impl.ErrRange}, {-1, 5, 30, 0, impl.ErrRange},
		{10, 0, 30, 0, impl.ErrRange}, {10, 501, 30, 0, impl.ErrRange}, {10, -5, 9, 0, impl.ErrRange},
		{10, 5, -1, 0, impl.ErrRange}, {10, 5, 10001, 0, impl.ErrRange},
		{math.MinInt64, 5, 30, 0, impl.ErrRange}, {math.MaxInt64, 5, 30, 0, impl.ErrRange}, {10, math.MinInt64, 30, 0, impl.ErrRange},
		{10, math.MaxInt64, 30, 0, impl.ErrRange}, {10, 5, math.MinInt64, 0, impl.ErrRange}, {10, 5, math.MaxInt64, 0, impl.ErrRange},
	}
	for _, c := range cases {
		if start, code := impl.LatestStart(c.soaks, c.supple, c.hour); start != c.start || code != c.code {
			t.Errorf("LatestStart(%d, %d, %d) = %d, %d, want %d, %d", c.soaks, c.supple, c.hour, start, code, c.start, c.code)
		}
	}
}

// hasRoom reports whether, at all hours at which b is in the tank, there is room for it with the bundles counted.
func hasRoom(counts []int64, b impl.Batch, room int64) bool {
	for hour := b.Start; hour < b.Start+b.Soaks; hour++ {
		if counts[hour]+b.Bundles > room {
			return false
		}
	}
	return true
}

// planned puts one batch after the other in, trying hour by hour.
func planned(list []impl.Batch, room int64) ([]impl.Batch, int64) {
	for _, b := range list {
		if b.Bundles > room {
			return nil, impl.ErrFull
		}
	}
	var plan []impl.Batch
	for _, b := range list {
		counts := tankHours(plan)
		for b.Start <= impl.MaxHourS && !hasRoom(counts, b, room) {
			b.Start++
		}
		if b.Start > impl.MaxHourS {
			return nil, impl.ErrState
		}
		plan = append(plan, b)
	}
	return plan, impl.OK
}

// checkPromise4 checks that there is room at all hours, and for no moved batch an hour earlier.
func checkPromise4(t *testing.T, list, plan []impl.Batch, room int64) {
	t.Helper()
	if hour, code := impl.FirstTooMany(plan, room); code != impl.ErrNotFound {
		t.Fatalf("the plan %v of %v has no room for %d at %d, %d", plan, list, room, hour, code)
	}
	for hour := range int64(lastHour) {
		if n, code := impl.InTank(plan, hour); n > room || code != impl.OK {
			t.Fatalf("the plan %v of %v has %d, %d at %d, with room for %d", plan, list, n, code, hour, room)
		}
	}
	for i, b := range plan {
		if unmoved := batch(list[i].Start, b.Soaks, b.Supple, b.Bundles); b.Start < list[i].Start || unmoved != list[i] {
			t.Fatalf("%v is planned as %v", list[i], b)
		}
		// Not just an hour earlier, but at any hour before.
		for b.Start--; b.Start >= list[i].Start; b.Start-- {
			earlier := append(slices.Clone(plan[:i]), b)
			if _, code := impl.FirstTooMany(earlier, room); code != impl.OK {
				t.Fatalf("the plan %v of %v, with room for %d, could have %v", plan, list, room, b)
			}
		}
	}
}

func TestEarliestPlan(t *testing.T) {
	codes := map[int64]int{}
	for _, list := range batchLists() {
		for _, room := range []int64{0, 1, 2, 3, 4, 5, 7, 8, 10, 12, 16, 30, 60, 90, 99, 100} {
			want, wantCode := planned(list, room)
			got, code := impl.EarliestPlan(list, room)
			if !slices.Equal(got, want) || code != wantCode {
				t.Fatalf("EarliestPlan(%v, %d) = %v, %d, want %v, %d", list, room, got, code, want, wantCode)
			}
			if code == impl.OK {
				checkPromise4(t, list, got, room)
			}
			codes[code]++
		}
	}
	for _, code := range []int64{impl.OK, impl.ErrFull, impl.ErrState} {
		if codes[code] < 3 {
			t.Errorf("only %d plans have the code %d", codes[code], code)
		}
	}
}

// TestEarliestPlanOfSmallBatches takes all lists of three small batches, which begin and end at the same hours in all ways.
func TestEarliestPlanOfSmallBatches(t *testing.T) {
	var small []impl.Batch
	for n := range int64(27) {
		small = append(small, batch(n%3*2, 1+n/3%3, 1, 1+n/9))
	}
	for _, a := range small {
		for _, b := range small {
			for _, c := range small {
				list := []impl.Batch{a, b, c, batch(0, 2, 1, 2)}
				for room := int64(2); room <= 4; room++ {
					want, wantCode := planned(list, room)
					if got, code := impl.EarliestPlan(list, room); !slices.Equal(got, want) || code != wantCode {
						t.Fatalf("EarliestPlan(%v, %d) = %v, %d, want %v, %d", list, room, got, code, want, wantCode)
					}
				}
			}
		}
	}
}

func TestEarliestPlanByHand(t *testing.T) {
	cases := []struct {
		name   string
		list   []impl.Batch
		room   int64
		starts []int64
	}{
		{"the document's example", []impl.Batch{batch(0, 10, 5, 4), batch(0, 10, 5, 4)}, 5, []int64{0, 10}},
		{"just room for both", []impl.Batch{batch(0, 10, 5, 4), batch(0, 10, 5, 4)}, 8, []int64{0, 0}},
		{"no batches and no room", nil, 0, nil},
		{"its own Start is kept in an empty tank", []impl.Batch{batch(37, 10, 5, 4)}, 4, []int64{37}},
		{"its own Start is just free", []impl.Batch{batch(0, 10, 5, 4), batch(10, 10, 5, 4)}, 4, []int64{0, 10}},
		{"its own Start is the last hour that is not free", []impl.Batch{batch(0, 10, 5, 4), batch(9, 10, 5, 4)}, 4, []int64{0, 10}},
		{"its last hour is just free", []impl.Batch{batch(10, 10, 5, 4), batch(0, 10, 5, 4)}, 4, []int64{10, 0}},
		{"its last hour is not free", []impl.Batch{batch(10, 10, 5, 4), batch(1, 10, 5, 4)}, 4, []int64{10, 20}},
		{"a gap just long enough", []impl.Batch{batch(0, 5, 1, 4), batch(8, 5, 1, 4), batch(0, 3, 1, 4)}, 4, []int64{0, 8, 5}},
		{"a gap one hour too short", []impl.Batch{batch(0, 5, 1, 4), batch(8, 5, 1, 4), batch(0, 4, 1, 4)}, 4, []int64{0, 8, 13}},
		{"a gap that its own Start makes too short", []impl.Batch{batch(0, 5, 1, 4), batch(8, 5, 1, 4), batch(6, 3, 1, 4)}, 4, []int64{0, 8, 13}},
		{"the second gap", []impl.Batch{batch(0, 2, 1, 4), batch(3, 2, 1, 4), batch(7, 2, 1, 4), batch(0, 2, 1, 4)}, 4, []int64{0, 3, 7, 5}},
		{"batches in front count where they are put now", []impl.Batch{batch(0, 10, 1, 4), batch(0, 10, 1, 4), batch(0, 10, 1, 4)}, 5, []int64{0, 10, 20}},
		{"room beside one batch but not beside two", []impl.Batch{batch(0, 10, 1, 2), batch(5, 10, 1, 2), batch(0, 6, 1, 2)}, 5, []int64{0, 5, 10}},
		{"room beside one batch up to the second one", []impl.Batch{batch(0, 10, 1, 2), batch(5, 10, 1, 2), batch(0, 5, 1, 2)}, 5, []int64{0, 5, 0}},
		{"a batch comes just when another one is out", []impl.Batch{batch(0, 5, 1, 3), batch(5, 5, 1, 3), batch(0, 10, 1, 2)}, 5, []int64{0, 5, 0}},
		{"batches behind it do not count", []impl.Batch{batch(0, 10, 1, 1), batch(0, 10, 1, 5)}, 5, []int64{0, 10}},
		{"the supple ones are out of the tank", []impl.Batch{batch(0, 1, 500, 100), batch(0, 1, 500, 100), batch(0, 1, 500, 100)}, 100, []int64{0, 1, 2}},
		{"the last Start of all", []impl.Batch{batch(4500, 500, 5, 4), batch(4600, 500, 5, 4)}, 5, []int64{4500, 5000}},
	}
	for _, c := range cases {
		got, code := impl.EarliestPlan(c.list, c.room)
		want := slices.Clone(c.list)
		for i, start := range c.starts {
			want[i].Start = start
		}
		if !slices.Equal(got, want) || code != impl.OK {
			t.Errorf("%s: EarliestPlan = %v, %d, want %v", c.name, got, code, want)
		}
		if code == impl.OK {
			checkPromise4(t, c.list, got, c.room)
		}
	}
}

func TestEarliestPlanErrors(t *testing.T) {
	last := batch(5000, 10, 5, 4)
	cases := []struct {
		name string
		list []impl.Batch
		room int64
		code int64
	}{
		{"one bundle too many", []impl.Batch{batch(0, 10, 5, 4)}, 3, impl.ErrFull},
		{"no room at all", []impl.Batch{batch(0, 1, 1, 1)}, 0, impl.ErrFull},
		{"the last one has too many", []impl.Batch{batch(0, 10, 5, 4), batch(0, 10, 5, 4), batch(0, 10, 5, 6)}, 5, impl.ErrFull},
		{"no room at the last Start", []impl.Batch{last, last}, 5, impl.ErrState},
		{"an hour too late", []impl.Batch{batch(4501, 500, 5, 4), batch(4501, 500, 5, 4)}, 5, impl.ErrState},
		{"an hour too late, and a batch behind", []impl.Batch{batch(4501, 500, 5, 4), batch(4501, 500, 5, 4), batch(0, 1, 1, 1)}, 5, impl.ErrState},
		{"ErrFull is checked over all batches before ErrState", []impl.Batch{last, last, batch(0, 10, 5, 6)}, 5, impl.ErrFull},
	}
	for _, c := range cases {
		if got, code := impl.EarliestPlan(c.list, c.room); len(got) != 0 || code != c.code {
			t.Errorf("%s: EarliestPlan = %v, %d, want code %d", c.name, got, code, c.code)
		}
	}
	for _, room := range []int64{-1, 101, math.MinInt64, math.MaxInt64} {
		for _, list := range [][]impl.Batch{nil, {batch(0, 10, 5, 100)}, {last, last}} {
			if got, code := impl.EarliestPlan(list, room); len(got) != 0 || code != impl.ErrRange {
				t.Errorf("EarliestPlan(%v, %d) = %v, %d", list, room, got, code)
			}
		}
	}
	for _, list := range noBatchLists() {
		for _, room := range []int64{0, 3, 5, 100, -1, 101} {
			if got, code := impl.EarliestPlan(list, room); len(got) != 0 || code != impl.ErrInvalid {
				t.Errorf("EarliestPlan(%v, %d) = %v, %d", list, room, got, code)
			}
		}
	}
}

func TestSuppleHours(t *testing.T) {
	for _, list := range batchLists() {
		counts := suppleHours(list)
		for _, bundles := range []int64{1, 2, 3, 4, 5, 7, 8, 9, 10, 20, 50, 99, 100, 101, 150, 200, 300, 500, 999, 1000} {
			want := int64(0)
			for _, n := range counts {
				if n >= bundles {
					want++
				}
			}
			if got, code := impl.SuppleHours(list, bundles); got != want || code != impl.OK {
				t.Fatalf("SuppleHours(%v, %d) = %d, %d, want %d", list, bundles, got, code, want)
			}
		}
	}
}

func TestSuppleHoursByHand(t *testing.T) {
	two := []impl.Batch{batch(0, 10, 5, 4), batch(0, 12, 5, 4)}
	cases := []struct {
		name          string
		list          []impl.Batch
		bundles, want int64
	}{
		{"both at once", []impl.Batch{batch(0, 10, 5, 4), batch(0, 10, 5, 4)}, 8, 5},
		{"one more than both", []impl.Batch{batch(0, 10, 5, 4), batch(0, 10, 5, 4)}, 9, 0},
		{"the hours of both together", two, 8, 3},
		{"the hours of one of them", two, 4, 7},
		{"one behind the other", []impl.Batch{batch(0, 10, 5, 4), batch(5, 10, 5, 4)}, 5, 0},
		{"hours apart", []impl.Batch{batch(0, 10, 5, 4), batch(100, 10, 5, 4)}, 4, 10},
		{"no batches", nil, 1, 0},
		{"all of them", slices.Repeat([]impl.Batch{batch(5000, 500, 500, 100)}, 10), 1000, 500},
	}
	for _, c := range cases {
		if got, code := impl.SuppleHours(c.list, c.bundles); got != c.want || code != impl.OK {
			t.Errorf("%s: SuppleHours = %d, %d, want %d", c.name, got, code, c.want)
		}
	}
}

func TestSuppleHoursErrors(t *testing.T) {
	for _, bundles := range []int64{0, -1, 1001, math.MinInt64, math.MaxInt64} {
		for _, list := range [][]impl.Batch{nil, {batch(0, 10, 5, 4)}} {
			if got, code := impl.SuppleHours(list, bundles); got != 0 || code != impl.ErrRange {
				t.Errorf("SuppleHours(%v, %d) = %d, %d", list, bundles, got, code)
			}
		}
	}
	for _, list := range noBatchLists() {
		for _, bundles := range []int64{1, 1000, 0, 1001} {
			if got, code := impl.SuppleHours(list, bundles); got != 0 || code != impl.ErrInvalid {
				t.Errorf("SuppleHours(%v, %d) = %d, %d", list, bundles, got, code)
			}
		}
	}
}

func TestBestHour(t *testing.T) {
	for _, list := range batchLists() {
		counts := suppleHours(list)
		most := slices.Max(counts)
		want, wantCode := int64(slices.Index(counts, most)), int64(impl.OK)
		if len(list) == 0 {
			wantCode = impl.ErrNotFound
		}
		if hour, n, code := impl.BestHour(list); hour != want || n != most || code != wantCode {
			t.Fatalf("BestHour(%v) = %d, %d, %d, want %d, %d, %d", list, hour, n, code, want, most, wantCode)
		}
	}
}

func TestBestHourByHand(t *testing.T) {
	cases := []struct {
		name       string
		list       []impl.Batch
		hour, most int64
	}{
		{"both at once", []impl.Batch{batch(0, 10, 5, 4), batch(0, 10, 5, 4)}, 10, 8},
		{"the first one of several", []impl.Batch{batch(100, 10, 5, 4), batch(0, 10, 5, 4)}, 10, 4},
		{"one just behind the other", []impl.Batch{batch(5, 10, 5, 4), batch(0, 10, 5, 4)}, 10, 4},
		{"the last hour of one is the first one of the other", []impl.Batch{batch(4, 10, 5, 4), batch(0, 10, 5, 4)}, 14, 8},
		{"the later one has more", []impl.Batch{batch(0, 10, 5, 4), batch(100, 10, 5, 5)}, 110, 5},
		{"the first hour that may be", []impl.Batch{batch(0, 1, 1, 1)}, 1, 1},
		{"the last hour that may be", slices.Repeat([]impl.Batch{batch(5000, 500, 1, 100)}, 10), 5500, 1000},
	}
	for _, c := range cases {
		if hour, most, code := impl.BestHour(c.list); hour != c.hour || most != c.most || code != impl.OK {
			t.Errorf("%s: BestHour = %d, %d, %d, want %d, %d", c.name, hour, most, code, c.hour, c.most)
		}
	}
	for _, list := range [][]impl.Batch{nil, {}} {
		if hour, most, code := impl.BestHour(list); hour != 0 || most != 0 || code != impl.ErrNotFound {
			t.Errorf("BestHour of no batches = %d, %d, %d", hour, most, code)
		}
	}
	for _, list := range noBatchLists() {
		if hour, most, code := impl.BestHour(list); hour != 0 || most != 0 || code != impl.ErrInvalid {
			t.Errorf("BestHour(%v) = %d, %d, %d", list, hour, most, code)
		}
	}
}
