package tests

import (
	"math"
	"math/rand"
	"runtime"
	"slices"
	"testing"

	"loop.example/g01064/impl"
)

// laidCase is rods around stakes, with what counts as beside.
type laidCase struct {
	stakes int64
	rods   []int64
	beside int64
}

// someLaid returns drawn cases of 0 to most rods; many rods reach about around the stakes, so that joins lie above each other or just miss it.
func someLaid(seed int64, count, most int) []laidCase {
	source := rand.New(rand.NewSource(seed))
	var cases []laidCase
	for i := range count {
		c := laidCase{stakes: 3 + source.Int63n(58), beside: source.Int63n(6)}
		if i%3 == 0 {
			c.stakes = 3 + source.Int63n(10)
		}
		for range i % (most + 1) {
			reach := 1 + source.Int63n(200)
			switch source.Intn(5) {
			case 0, 1:
				reach = c.stakes - c.beside - 1 + source.Int63n(2*c.beside+3)
			case 2:
				reach = 1 + source.Int63n(c.stakes)
			case 3:
				reach = c.stakes / 2
			}
			c.rods = append(c.rods, min(max(reach, 1), 200))
		}
		cases = append(cases, c)
	}
	return cases
}

// noReaches returns lists that are not valid, with any stakes.
func noReaches() [][]int64 {
	return [][]int64{
		{0}, {-1}, {201}, {5, 0}, {5, 10, -8}, {0, 5, 10}, {5, 201, 8}, {5, 10, 201}, {201, 10, 8}, {math.MinInt64}, {math.MaxInt64}, {5, math.MinInt64, 8}, {math.MaxInt64, 1},
		{1, 1, 1, 1, 1, 1, 1, 1}, {200, 200, 200, 200, 200, 200, 200, 200}, slices.Repeat([]int64{5}, 1000), {1, 2, 3, 4, 5, 6, 0}, {1, 2, 3, 4, 5, 6, 7, 0},
	}
}

// noRings returns numbers of stakes that no rods can be laid around.
func noRings() []int64 {
	return []int64{math.MinInt64, -10, -1, 0, 1, 2, 61, 62, 200, 1 << 32, math.MaxInt64}
}

// noBesides returns numbers that are out of the range of beside.
func noBesides() []int64 {
	return []int64{math.MinInt64, -5, -1, 6, 7, 60, 1 << 32, math.MaxInt64}
}

// joinsBy lays rods stake by stake, and returns the places and the stakes of all joins, and where and in which round the last rod ends.
func joinsBy(stakes int64, rods []int64) (places, at []int64, rounds, rest int64) {
	var place int64
	for k, reach := range rods {
		for range reach {
			place++
			rest++
			if rest == stakes {
				rounds++
				rest = 0
			}
		}
		if k < len(rods)-1 {
			places = append(places, place)
			at = append(at, rest)
		}
	}
	return places, at, rounds, rest
}

// aboveBy returns the indices of the joins that lie above others: each one looks at all places about one round below it.
func aboveBy(c laidCase) []int64 {
	places, _, _, _ := joinsBy(c.stakes, c.rods)
	isJoin := map[int64]bool{}
	var above []int64
	for k, place := range places {
		for side := -c.beside; side <= c.beside; side++ {
			if isJoin[place-c.stakes+side] {
				above = append(above, int64(k))
				break
			}
		}
		isJoin[place] = true // only now, as none lies above itself
	}
	return above
}

// allOrders returns all orders of so many rods, in ascending order.
func allOrders(count int) [][]int64 {
	orders := [][]int64{nil}
	for n := range count {
		var longer [][]int64
		for _, order := range orders {
			for at := range n + 1 {
				longer = append(longer, slices.Insert(slices.Clone(order), at, int64(n)))
			}
		}
		orders = longer
	}
	slices.SortFunc(orders, slices.Compare)
	return orders
}

// ordered returns a case with its rods in another order.
func (c laidCase) ordered(order []int64) laidCase {
	var rods []int64
	for _, i := range order {
		rods = append(rods, c.rods[i])
	}
	c.rods = rods
	return c
}

// bestBy returns the first one of the given orders with the fewest joins above others, and how many these are.
func bestBy(c laidCase, orders [][]int64) ([]int64, int64) {
	var best []int64
	fewest := int64(math.MaxInt64)
	for _, order := range orders {
		if above := int64(len(aboveBy(c.ordered(order)))); above < fewest {
			best, fewest = order, above
		}
	}
	return best, fewest
}

func TestJoinLimits(t *testing.T) {
	if impl.MaxLaid != 7 || impl.MaxReach != 200 || impl.MaxBeside != 5 {
		t.Errorf("the limits are %d, %d and %d", impl.MaxLaid, impl.MaxReach, impl.MaxBeside)
	}
}

func TestValidLaid(t *testing.T) {
	for stakes := int64(-3); stakes <= 70; stakes++ {
		for count := range 12 {
			for _, reach := range []int64{math.MinInt64, -1, 0, 1, 2, 100, 199, 200, 201, math.MaxInt64} {
				want := stakes >= 3 && stakes <= 60 && count <= 7 && (count == 0 || reach >= 1 && reach <= 200)
				if got := impl.ValidLaid(stakes, slices.Repeat([]int64{reach}, count)); got != want {
					t.Errorf("ValidLaid(%d, %d times %d) = %v", stakes, count, reach, got)
				}
			}
		}
		if got := impl.ValidLaid(stakes, nil); got != (stakes >= 3 && stakes <= 60) {
			t.Errorf("ValidLaid(%d, nil) = %v", stakes, got)
		}
	}
	for _, rods := range noReaches() {
		for _, stakes := range append(noRings(), 3, 10, 60) {
			if impl.ValidLaid(stakes, rods) {
				t.Errorf("ValidLaid(%d, %v)", stakes, rods)
			}
		}
	}
	for _, stakes := range noRings() {
		for _, rods := range [][]int64{nil, {1}, {5, 10, 8}, {200, 200, 200, 200, 200, 200, 200}} {
			if impl.ValidLaid(stakes, rods) {
				t.Errorf("ValidLaid(%d, %v)", stakes, rods)
			}
		}
	}
}

func TestJoinsAndRounds(t *testing.T) {
	for _, c := range someLaid(10, 4000, 7) {
		_, at, wantRounds, wantRest := joinsBy(c.stakes, c.rods)
		if got, code := impl.JoinsOf(c.stakes, c.rods); !slices.Equal(got, at) || code != impl.OK {
			t.Fatalf("JoinsOf(%d, %v) = %v, %d, want %v", c.stakes, c.rods, got, code, at)
		}
		if rounds, rest, code := impl.RoundsLaid(c.stakes, c.rods); rounds != wantRounds || rest != wantRest || code != impl.OK {
			t.Fatalf("RoundsLaid(%d, %v) = %d, %d, %d, want %d, %d", c.stakes, c.rods, rounds, rest, code, wantRounds, wantRest)
		}
	}
}

func TestJoinsAndRoundsByHand(t *testing.T) {
	cases := []struct {
		stakes       int64
		rods         []int64
		joins        []int64
		rounds, rest int64
	}{
		{10, []int64{5, 10, 8}, []int64{5, 5}, 2, 3}, {10, nil, nil, 0, 0}, {10, []int64{}, nil, 0, 0}, {10, []int64{1}, nil, 0, 1}, {10, []int64{9}, nil, 0, 9}, {10, []int64{10}, nil, 1, 0}, {10, []int64{200}, nil, 20, 0},
		{10, []int64{10, 10}, []int64{0}, 2, 0}, {10, []int64{9, 1}, []int64{9}, 1, 0}, {10, []int64{9, 2, 1}, []int64{9, 1}, 1, 2}, {10, []int64{20, 20, 20}, []int64{0, 0}, 6, 0}, {10, []int64{5, 10, 8, 7}, []int64{5, 5, 3}, 3, 0},
		{3, []int64{1, 1, 1, 1, 1, 1, 1}, []int64{1, 2, 0, 1, 2, 0}, 2, 1}, {3, []int64{200, 200, 200, 200, 200, 200, 200}, []int64{2, 1, 0, 2, 1, 0}, 466, 2}, {60, []int64{200, 200, 200, 200, 200, 200, 200}, []int64{20, 40, 0, 20, 40, 0}, 23, 20},
		{60, []int64{1, 59, 60, 61}, []int64{1, 0, 0}, 3, 1}, {7, []int64{3, 4, 5, 6, 7, 8, 9}, []int64{3, 0, 5, 4, 4, 5}, 6, 0},
	}
	for _, c := range cases {
		if joins, code := impl.JoinsOf(c.stakes, c.rods); !slices.Equal(joins, c.joins) || code != impl.OK {
			t.Errorf("JoinsOf(%d, %v) = %v, %d, want %v", c.stakes, c.rods, joins, code, c.joins)
		}
		if rounds, rest, code := impl.RoundsLaid(c.stakes, c.rods); rounds != c.rounds || rest != c.rest || code != impl.OK {
			t.Errorf("RoundsLaid(%d, %v) = %d, %d, %d, want %d, %d", c.stakes, c.rods, rounds, rest, code, c.rounds, c.rest)
		}
	}
}

// checkAbove checks what CountAbove and FirstAbove tell of a case whose joins above others have these indices.
func checkAbove(t *testing.T, c laidCase, above []int64) {
	t.Helper()
	if count, code := impl.CountAbove(c.stakes, c.rods, c.beside); count != int64(len(above)) || code != impl.OK {
		t.Errorf("CountAbove(%v) = %d, %d, want those of %v", c, count, code, above)
	}
	first, wantCode := int64(0), int64(impl.ErrNotFound)
	if len(above) > 0 {
		first, wantCode = above[0], impl.OK
	}
	if k, code := impl.FirstAbove(c.stakes, c.rods, c.beside); k != first || code != wantCode {
		t.Errorf("FirstAbove(%v) = %d, %d, want %d, %d", c, k, code, first, wantCode)
	}
}

func TestAbove(t *testing.T) {
	counts := map[int]int{}
	for _, c := range someLaid(100, 6000, 7) {
		above := aboveBy(c)
		checkAbove(t, c, above)
		counts[len(above)]++
	}
	for _, c := range someLaid(101, 200, 7) {
		for stakes := int64(3); stakes <= 60; stakes++ {
			for beside := int64(0); beside <= 5; beside++ {
				x := laidCase{stakes, c.rods, beside}
				checkAbove(t, x, aboveBy(x))
			}
		}
	}
	for count := range 6 {
		if counts[count] < 20 {
			t.Errorf("only %d of the drawn cases have %d joins above others", counts[count], count)
		}
	}
}

// TestJustBeside checks all differences of two places around all stakes.
func TestJustBeside(t *testing.T) {
	for stakes := int64(3); stakes <= 60; stakes++ {
		for beside := int64(0); beside <= 5; beside++ {
			for apart := int64(1); apart <= 200; apart++ {
				var above []int64
				if apart >= stakes-beside && apart <= stakes+beside {
					above = []int64{1}
				}
				for _, first := range []int64{1, 2, stakes - 1, stakes, 200} {
					checkAbove(t, laidCase{stakes, []int64{first, apart, 1}, beside}, above)
				}
			}
		}
	}
}

func TestAboveByHand(t *testing.T) {
	cases := []struct {
		laid  laidCase
		above []int64
	}{
		{laidCase{10, []int64{5, 10, 8}, 0}, []int64{1}}, {laidCase{10, []int64{5, 8, 10}, 0}, nil}, {laidCase{10, []int64{5, 8, 10}, 1}, nil}, {laidCase{10, []int64{5, 8, 10}, 2}, []int64{1}}, {laidCase{10, []int64{5, 6, 7}, 0}, nil},
		// No rods, no join, and one join; the end of the last rod is none.
		{laidCase{10, nil, 0}, nil}, {laidCase{3, nil, 5}, nil}, {laidCase{10, []int64{10}, 5}, nil}, {laidCase{10, []int64{10, 10}, 0}, nil}, {laidCase{10, []int64{5, 10}, 5}, nil}, {laidCase{3, []int64{3, 3}, 5}, nil}, {laidCase{3, []int64{1, 1}, 3}, nil},
		// One round higher, not two, and not the same round.
		{laidCase{10, []int64{5, 20, 8}, 0}, nil}, {laidCase{10, []int64{5, 20, 8}, 5}, nil}, {laidCase{10, []int64{5, 30, 8}, 5}, nil}, {laidCase{10, []int64{10, 20, 10, 20}, 0}, []int64{2}}, {laidCase{10, []int64{5, 1, 8}, 5}, nil}, {laidCase{10, []int64{5, 5, 5, 5}, 0}, []int64{2}},
		{laidCase{10, []int64{5, 15, 5}, 4}, nil}, {laidCase{10, []int64{5, 15, 5}, 5}, []int64{1}}, {laidCase{10, []int64{5, 5, 5}, 4}, nil}, {laidCase{10, []int64{5, 5, 5}, 5}, []int64{1}}, {laidCase{10, []int64{5, 4, 5}, 5}, nil}, {laidCase{10, []int64{5, 16, 5}, 5}, nil},
		// Stakes beside each other where a round ends: from 9 to 1 behind a round, and from 9 to 1 in two steps.
		{laidCase{10, []int64{9, 12, 5}, 1}, nil}, {laidCase{10, []int64{9, 12, 5}, 2}, []int64{1}}, {laidCase{10, []int64{9, 2, 5}, 2}, nil}, {laidCase{10, []int64{1, 8, 5}, 1}, nil}, {laidCase{10, []int64{1, 8, 5}, 2}, []int64{1}}, {laidCase{10, []int64{1, 18, 5}, 2}, nil},
		// Above two earlier ones, which counts once, and above one that is not the last one before it.
		{laidCase{10, []int64{5, 1, 10, 3}, 0}, []int64{2}}, {laidCase{10, []int64{5, 1, 10, 3}, 1}, []int64{2}}, {laidCase{10, []int64{5, 1, 9, 3}, 0}, []int64{2}}, {laidCase{10, []int64{5, 3, 3, 4, 9}, 0}, []int64{3}}, {laidCase{10, []int64{1, 1, 1, 7, 1, 1}, 0}, []int64{4}}, {laidCase{10, []int64{1, 1, 1, 7, 1, 1, 1}, 1}, []int64{3, 4, 5}},
		// All but the first one, and some that are not the first ones.
		{laidCase{10, []int64{10, 10, 10, 10, 10, 10, 10}, 0}, []int64{1, 2, 3, 4, 5}}, {laidCase{60, []int64{60, 60, 60, 60, 60, 60, 60}, 5}, []int64{1, 2, 3, 4, 5}}, {laidCase{10, []int64{7, 3, 12, 10, 7, 10, 1}, 0}, []int64{3, 5}}, {laidCase{200 / 4, []int64{200, 200, 50, 1}, 0}, []int64{2}},
		// As few stakes as may be beside: all joins that are near are above, but none is above itself.
		{laidCase{3, []int64{1, 1, 1}, 1}, nil}, {laidCase{3, []int64{1, 1, 1}, 2}, []int64{1}}, {laidCase{3, []int64{1, 1, 1, 1}, 1}, []int64{2}}, {laidCase{3, []int64{1, 8, 1}, 5}, []int64{1}}, {laidCase{3, []int64{1, 9, 1}, 5}, nil}, {laidCase{3, []int64{9, 9, 9}, 3}, nil}, {laidCase{5, []int64{11, 11, 11}, 5}, nil}, {laidCase{3, []int64{1, 1, 1, 1, 1, 1, 1}, 5}, []int64{1, 2, 3, 4, 5}},
	}
	for _, c := range cases {
		checkAbove(t, c.laid, c.above)
		if by := aboveBy(c.laid); !slices.Equal(by, c.above) {
			t.Errorf("%v: %v, and laid stake by stake %v", c.laid, c.above, by)
		}
	}
}

// checkOrder checks what OrderRods and FewestAbove tell of a case whose best order is this one.
func checkOrder(t *testing.T, c laidCase, best []int64, fewest int64) {
	t.Helper()
	want, wantCode := best, int64(impl.OK)
	if fewest > 0 {
		want, wantCode = nil, impl.ErrNotFound
	}
	if order, code := impl.OrderRods(c.stakes, c.rods, c.beside); !slices.Equal(order, want) || code != wantCode {
		t.Errorf("OrderRods(%v) = %v, %d, want %v, %d", c, order, code, want, wantCode)
	}
	if above, code := impl.FewestAbove(c.stakes, c.rods, c.beside); above != fewest || code != impl.OK {
		t.Errorf("FewestAbove(%v) = %d, %d, want %d", c, above, code, fewest)
	}
}

func TestOrdersAmongAll(t *testing.T) {
	fewests, turned := map[int64]int{}, 0
	for count := range 8 {
		orders := allOrders(count)
		cases := []laidCase{{10, slices.Repeat([]int64{10}, count), 0}, {60, slices.Repeat([]int64{200}, count), 5}, {3, slices.Repeat([]int64{1}, count), 1}}
		for i, c := range someLaid(int64(1000+count), 120*8, 7) {
			if len(c.rods) == count && (count < 7 || i%4 == 3) {
				cases = append(cases, c)
			}
		}
		for _, c := range cases {
			best, fewest := bestBy(c, orders)
			checkOrder(t, c, best, fewest)
			fewests[fewest]++
			if fewest == 0 && !slices.IsSorted(best) {
				turned++
			}
		}
	}
	if fewests[0] < 300 || fewests[1] < 30 || fewests[2] < 10 || fewests[5] < 1 || turned < 50 {
		t.Errorf("the fewest joins above others are %v of the drawn cases, and only %d of them are to be put in another order", fewests, turned)
	}
}

func TestOrdersByHand(t *testing.T) {
	cases := []struct {
		laid   laidCase
		best   []int64
		fewest int64
	}{
		{laidCase{10, []int64{5, 10, 8}, 0}, []int64{0, 2, 1}, 0}, {laidCase{10, []int64{10, 5, 8}, 0}, []int64{0, 1, 2}, 0}, {laidCase{10, []int64{5, 8, 10}, 0}, []int64{0, 1, 2}, 0},
		{laidCase{10, nil, 0}, nil, 0}, {laidCase{3, nil, 5}, nil, 0}, {laidCase{10, []int64{10}, 5}, []int64{0}, 0}, {laidCase{10, []int64{10, 10}, 5}, []int64{0, 1}, 0}, {laidCase{10, []int64{9, 4}, 5}, []int64{0, 1}, 0},
		// A rod that reaches around lies in the middle, or one that reaches about as far.
		{laidCase{10, []int64{10, 10, 10}, 0}, nil, 1}, {laidCase{10, []int64{10, 11, 10}, 0}, []int64{0, 1, 2}, 0}, {laidCase{10, []int64{10, 10, 11}, 0}, []int64{0, 2, 1}, 0}, {laidCase{10, []int64{11, 10, 10}, 0}, []int64{1, 0, 2}, 0}, {laidCase{10, []int64{11, 10, 10}, 1}, nil, 1}, {laidCase{10, []int64{8, 10, 10}, 1}, []int64{1, 0, 2}, 0}, {laidCase{10, []int64{8, 10, 10}, 2}, nil, 1}, {laidCase{10, []int64{12, 10, 10}, 1}, []int64{1, 0, 2}, 0}, {laidCase{10, []int64{12, 10, 10}, 2}, nil, 1},
		// Rods that reach around together are not laid one behind the other, but with joins at both ends.
		{laidCase{10, []int64{3, 4, 6, 20}, 0}, []int64{0, 1, 3, 2}, 0}, {laidCase{10, []int64{20, 4, 6, 20}, 0}, []int64{0, 1, 3, 2}, 0}, {laidCase{10, []int64{5, 10, 10, 8}, 0}, []int64{1, 0, 3, 2}, 0},
		// Where some joins have to lie above others.
		{laidCase{10, []int64{10, 10, 10, 10}, 0}, nil, 2}, {laidCase{10, []int64{10, 10, 10, 5}, 0}, nil, 1}, {laidCase{10, []int64{10, 10, 10, 10, 10, 10, 10}, 0}, nil, 5}, {laidCase{60, []int64{60, 60, 60, 60, 60, 60, 60}, 0}, nil, 5}, {laidCase{3, []int64{1, 1, 1, 1, 1, 1, 1}, 5}, nil, 5}, {laidCase{3, []int64{1, 1, 1, 1, 1, 1, 1}, 0}, nil, 3},
		{laidCase{60, []int64{200, 200, 200, 200, 200, 200, 200}, 5}, []int64{0, 1, 2, 3, 4, 5, 6}, 0}, {laidCase{3, []int64{9, 9, 9, 9, 9, 9, 9}, 5}, []int64{0, 1, 2, 3, 4, 5, 6}, 0}, {laidCase{3, []int64{8, 8, 8, 8, 8, 8, 8}, 5}, nil, 5}, {laidCase{10, []int64{1, 2, 3, 4, 5, 6, 7}, 0}, []int64{0, 1, 2, 3, 4, 5, 6}, 0},
	}
	for _, c := range cases {
		if best, fewest := bestBy(c.laid, allOrders(len(c.laid.rods))); fewest != c.fewest || fewest == 0 && !slices.Equal(best, c.best) {
			t.Errorf("%v: %v, %d, and among all orders %v, %d", c.laid, c.best, c.fewest, best, fewest)
		}
		checkOrder(t, c.laid, c.best, c.fewest)
	}
}

// TestPromise10 checks that no join lies above another one in the told order, and that no drawn order has fewer such joins than told.
func TestPromise10(t *testing.T) {
	source := rand.New(rand.NewSource(110))
	found, missing := 0, 0
	for _, c := range someLaid(10000, 800, 7) {
		fewest, code := impl.FewestAbove(c.stakes, c.rods, c.beside)
		order, orderCode := impl.OrderRods(c.stakes, c.rods, c.beside)
		if code != impl.OK || (orderCode == impl.OK) != (fewest == 0) || (orderCode == impl.ErrNotFound) != (fewest > 0) {
			t.Fatalf("%v: at least %d, %d, and the order %v, %d", c, fewest, code, order, orderCode)
		}
		if fewest == 0 {
			found++
			isOnce := slices.Clone(order)
			slices.Sort(isOnce)
			if len(order) != len(c.rods) || !slices.Equal(isOnce, allOrders(len(c.rods))[0]) {
				t.Fatalf("%v: %v is not an order of the rods", c, order)
			}
			if above := aboveBy(c.ordered(order)); len(above) > 0 {
				t.Fatalf("%v: in the order %v the joins %v lie above others", c, order, above)
			}
			checkAbove(t, c.ordered(order), nil)
		} else {
			missing++
		}
		for range 30 {
			var drawn []int64
			for _, i := range source.Perm(len(c.rods)) {
				drawn = append(drawn, int64(i))
			}
			x := c.ordered(drawn)
			above := int64(len(aboveBy(x)))
			if told, code := impl.CountAbove(x.stakes, x.rods, x.beside); told != above || code != impl.OK || above < fewest {
				t.Fatalf("%v: in the order %v %d joins lie above others, %d, %d are told, and %d as the fewest", c, drawn, above, code, told, fewest)
			}
			if fewest == 0 && above == 0 && slices.Compare(drawn, order) < 0 {
				t.Fatalf("%v: the order %v is before %v", c, drawn, order)
			}
		}
	}
	if found < 300 || missing < 100 {
		t.Errorf("only %d cases have orders without joins above others, and only %d have none", found, missing)
	}
}

func TestStakesForRods(t *testing.T) {
	none := 0
	for _, c := range someLaid(1010, 3000, 7) {
		most := c.stakes
		var want []int64
		for stakes := int64(3); stakes <= most; stakes++ {
			if len(aboveBy(laidCase{stakes, c.rods, c.beside})) == 0 {
				want = append(want, stakes)
			}
		}
		if got, code := impl.StakesForRods(c.rods, c.beside, most); !slices.Equal(got, want) || code != impl.OK {
			t.Fatalf("StakesForRods(%v, %d, %d) = %v, %d, want %v", c.rods, c.beside, most, got, code, want)
		}
		if len(want) == 0 {
			none++
		}
	}
	if none < 20 {
		t.Errorf("only %d cases have no number of stakes", none)
	}
}

func TestStakesForRodsByHand(t *testing.T) {
	cases := []struct {
		rods         []int64
		beside, most int64
		want         []int64
	}{
		{[]int64{5, 10, 8}, 0, 12, []int64{3, 4, 5, 6, 7, 8, 9, 11, 12}}, {[]int64{5, 10, 8}, 0, 9, []int64{3, 4, 5, 6, 7, 8, 9}}, {[]int64{5, 10, 8}, 0, 10, []int64{3, 4, 5, 6, 7, 8, 9}}, {[]int64{5, 10, 8}, 1, 12, []int64{3, 4, 5, 6, 7, 8, 12}}, {[]int64{5, 10, 8}, 5, 17, []int64{3, 4, 16, 17}}, {[]int64{5, 10, 8}, 5, 15, []int64{3, 4}},
		{nil, 0, 3, []int64{3}}, {nil, 5, 6, []int64{3, 4, 5, 6}}, {[]int64{3}, 5, 4, []int64{3, 4}}, {[]int64{3, 3}, 5, 5, []int64{3, 4, 5}}, {[]int64{3, 3, 3}, 0, 3, nil}, {[]int64{3, 3, 3}, 0, 4, []int64{4}}, {[]int64{3, 3, 3}, 5, 8, nil}, {[]int64{3, 3, 3}, 5, 9, []int64{9}}, {[]int64{200, 2, 200}, 0, 4, []int64{3, 4}}, {[]int64{200, 2, 200}, 1, 4, []int64{4}},
		{[]int64{1, 4, 5, 6, 7, 8, 1}, 1, 7, nil}, {[]int64{1, 3, 4, 5, 6, 7, 1}, 0, 7, nil},
	}
	for _, c := range cases {
		if got, code := impl.StakesForRods(c.rods, c.beside, c.most); !slices.Equal(got, c.want) || code != impl.OK {
			t.Errorf("StakesForRods(%v, %d, %d) = %v, %d, want %v", c.rods, c.beside, c.most, got, code, c.want)
		}
	}
}

// TestStakesForTwoJoins checks that all numbers are told but those near the only difference of two places.
func TestStakesForTwoJoins(t *testing.T) {
	for apart := int64(1); apart <= 200; apart++ {
		for beside := int64(0); beside <= 5; beside++ {
			var want []int64
			for stakes := int64(3); stakes <= 60; stakes++ {
				if stakes < apart-beside || stakes > apart+beside {
					want = append(want, stakes)
				}
			}
			if got, code := impl.StakesForRods([]int64{1, apart, 1}, beside, 60); !slices.Equal(got, want) || code != impl.OK {
				t.Errorf("StakesForRods for joins %d apart, with %d beside: %v, %d, want %v", apart, beside, got, code, want)
			}
		}
	}
}

// checkLaidErrors checks that all functions with rods, stakes and beside return one code and zeros.
func checkLaidErrors(t *testing.T, c laidCase, want int64) {
	t.Helper()
	functions := map[string]func(int64, []int64, int64) (int64, int64){"FirstAbove": impl.FirstAbove, "CountAbove": impl.CountAbove, "FewestAbove": impl.FewestAbove}
	for name, f := range functions {
		if n, code := f(c.stakes, c.rods, c.beside); n != 0 || code != want {
			t.Errorf("%s(%v) = %d, %d, want the code %d", name, c, n, code, want)
		}
	}
	if order, code := impl.OrderRods(c.stakes, c.rods, c.beside); len(order) != 0 || code != want {
		t.Errorf("OrderRods(%v) = %v, %d, want the code %d", c, order, code, want)
	}
}

func TestNotLaid(t *testing.T) {
	var cases []laidCase
	for _, rods := range noReaches() {
		for _, stakes := range append(noRings(), 3, 10, 60) {
			cases = append(cases, laidCase{stakes, rods, 0})
		}
	}
	for _, stakes := range noRings() {
		for _, rods := range [][]int64{nil, {5}, {5, 10, 8}, {200, 200, 200, 200, 200, 200, 200}} {
			cases = append(cases, laidCase{stakes, rods, 0})
		}
	}
	for _, c := range cases {
		if joins, code := impl.JoinsOf(c.stakes, c.rods); len(joins) != 0 || code != impl.ErrInvalid {
			t.Errorf("JoinsOf(%v) = %v, %d", c, joins, code)
		}
		if rounds, rest, code := impl.RoundsLaid(c.stakes, c.rods); rounds != 0 || rest != 0 || code != impl.ErrInvalid {
			t.Errorf("RoundsLaid(%v) = %d, %d, %d", c, rounds, rest, code)
		}
		for _, beside := range append(noBesides(), 0, 5) { // what is not valid comes first
			checkLaidErrors(t, laidCase{c.stakes, c.rods, beside}, impl.ErrInvalid)
		}
	}
}

func TestBesideErrors(t *testing.T) {
	for _, beside := range noBesides() {
		// Rods without any join, without an order and with one: the range comes first.
		for _, rods := range [][]int64{nil, {5}, {5, 10, 8}, {10, 10, 10}, {200, 200, 200, 200, 200, 200, 200}} {
			for _, stakes := range []int64{3, 10, 60} {
				checkLaidErrors(t, laidCase{stakes, rods, beside}, impl.ErrRange)
			}
		}
	}
	for beside := int64(0); beside <= 5; beside++ {
		if above, code := impl.FewestAbove(60, []int64{60, 60, 60}, beside); above != 1 || code != impl.OK {
			t.Errorf("with %d beside: %d, %d", beside, above, code)
		}
	}
}

func TestStakesForRodsErrors(t *testing.T) {
	check := func(rods []int64, beside, most, want int64) {
		if list, code := impl.StakesForRods(rods, beside, most); len(list) != 0 || code != want {
			t.Errorf("StakesForRods(%v, %d, %d) = %v, %d, want the code %d", rods, beside, most, list, code, want)
		}
	}
	for _, rods := range noReaches() {
		for _, beside := range append(noBesides(), 0, 5) {
			for _, most := range append(noRings(), 3, 60) {
				check(rods, beside, most, impl.ErrInvalid)
			}
		}
	}
	for _, rods := range [][]int64{nil, {5}, {5, 10, 8}, {3, 3, 3}, {200, 200, 200, 200, 200, 200, 200}} {
		for _, beside := range append(noBesides(), 0, 5) {
			for _, most := range noRings() {
				check(rods, beside, most, impl.ErrRange)
			}
		}
		for _, beside := range noBesides() {
			for _, most := range []int64{3, 10, 60} {
				check(rods, beside, most, impl.ErrRange)
			}
		}
	}
}

// TestNoSendersLeft checks that no goroutine is left behind, also by calls whose first order has no join above another one.
func TestNoSendersLeft(t *testing.T) {
	before := runtime.NumGoroutine()
	for _, c := range someLaid(11, 300, 7) {
		for _, beside := range []int64{-1, c.beside} {
			impl.OrderRods(c.stakes, c.rods, beside)
			impl.FewestAbove(c.stakes, c.rods, beside)
		}
	}
	if !isCalm(before) {
		t.Errorf("%d goroutines were there before all calls, and %d are now", before, runtime.NumGoroutine())
	}
}
