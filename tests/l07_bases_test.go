package tests

import (
	"math"
	"math/big"
	"math/rand"
	"runtime"
	"slices"
	"sync"
	"testing"
	"time"

	"loop.example/g01064/impl"
)

func base(through, split, radius, thick int64) impl.Base {
	return impl.Base{Through: through, Split: split, Radius: radius, Thick: thick}
}

// someBases returns ordinary bases and those at all limits, with no round, one, and as many as there may be.
func someBases() []impl.Base {
	bases := []impl.Base{
		base(4, 4, 60, 10), base(1, 1, 10, 1), base(12, 12, 1000, 50), base(1, 12, 1000, 50), base(12, 1, 1000, 50), base(12, 12, 10, 50), base(1, 1, 10, 50),
		base(1, 1, 1000, 1), base(12, 12, 1000, 1), base(3, 2, 100, 7), base(2, 3, 100, 7), base(2, 5, 60, 10), base(2, 5, 59, 10), base(5, 2, 60, 10), base(1, 1, 61, 1), base(1, 1, 62, 1),
		base(1, 1, 60, 1), base(7, 9, 333, 13), base(1, 1, 20, 10), base(1, 1, 19, 10), base(12, 11, 599, 50), base(12, 11, 649, 50), base(12, 11, 650, 50),
	}
	source := rand.New(rand.NewSource(7))
	for range 600 {
		bases = append(bases, base(1+source.Int63n(12), 1+source.Int63n(12), 10+source.Int63n(991), 1+source.Int63n(50)))
	}
	for range 300 {
		bases = append(bases, base(1+source.Int63n(12), 1+source.Int63n(12), 10+source.Int63n(191), 1+source.Int63n(12)))
	}
	return bases
}

// noBases returns bases that are not valid, each for one reason, and some for all reasons.
func noBases() []impl.Base {
	bases := []impl.Base{{}, base(13, 13, 1001, 51), base(math.MinInt64, math.MinInt64, math.MinInt64, math.MinInt64), base(math.MaxInt64, math.MaxInt64, math.MaxInt64, math.MaxInt64)}
	for _, n := range []int64{math.MinInt64, -4, -1, 0, 13, 14, 1 << 62, math.MaxInt64} {
		bases = append(bases, base(n, 4, 60, 10), base(4, n, 60, 10))
	}
	for _, n := range []int64{math.MinInt64, -60, -1, 0, 1, 9, 1001, 1002, math.MaxInt64} {
		bases = append(bases, base(4, 4, n, 10))
	}
	for _, n := range []int64{math.MinInt64, -10, -1, 0, 51, 52, math.MaxInt64} {
		bases = append(bases, base(4, 4, 60, n))
	}
	return bases
}

// ringsBy returns the radii of the rounds, laying one ring after the other outside the sticks.
func ringsBy(b impl.Base) []int64 {
	inner := b.Thick * b.Through
	if b.Split > b.Through {
		inner = b.Thick * b.Split
	}
	var radii []int64
	for outer := inner + b.Thick; outer <= b.Radius && len(radii) < 60; outer += b.Thick {
		radii = append(radii, outer-b.Thick+b.Thick/2)
	}
	return radii
}

// around returns 44 / 7 times a radius.
func around(radius int64) *big.Rat { return big.NewRat(44*radius, 7) }

// lengthBy returns the least whole number that is not less than the length of a circle.
func lengthBy(radius int64) int64 {
	n := 6 * radius
	for around(radius).Cmp(big.NewRat(n, 1)) > 0 {
		n++
	}
	return n
}

// gapBy returns the length of a circle, divided by the ends of sticks.
func gapBy(b impl.Base, radius int64) *big.Rat {
	ends := 2*b.Through + 2*b.Split
	return new(big.Rat).Quo(around(radius), big.NewRat(ends, 1))
}

func TestBaseLimits(t *testing.T) {
	got := []int64{impl.MaxSticks, impl.MaxRadius, impl.MaxRings}
	if want := []int64{12, 1000, 60}; !slices.Equal(got, want) {
		t.Errorf("the limits are %v, want %v", got, want)
	}
}

func TestValidBase(t *testing.T) {
	for _, b := range someBases() {
		if !impl.ValidBase(b) {
			t.Errorf("%v is valid", b)
		}
	}
	for _, b := range noBases() {
		if impl.ValidBase(b) {
			t.Errorf("%v is not valid", b)
		}
	}
	for n := int64(-3); n <= 1100; n++ {
		isStick, isRadius, isThick := n >= 1 && n <= 12, n >= 10 && n <= 1000, n >= 1 && n <= 50
		got := []bool{impl.ValidBase(base(n, 1, 60, 10)), impl.ValidBase(base(1, n, 60, 10)), impl.ValidBase(base(1, 1, n, 10)), impl.ValidBase(base(1, 1, 60, n))}
		if want := []bool{isStick, isStick, isRadius, isThick}; !slices.Equal(got, want) {
			t.Errorf("with %d for each field the verdicts are %v, want %v", n, got, want)
		}
	}
}

func TestEndsOf(t *testing.T) {
	for through := int64(1); through <= 12; through++ {
		for split := int64(1); split <= 12; split++ {
			if got, code := impl.EndsOf(base(through, split, 60, 10)); got != through+split+through+split || code != impl.OK {
				t.Errorf("EndsOf with %d through %d = %d, %d", through, split, got, code)
			}
		}
	}
}

func TestStakesFrom(t *testing.T) {
	for through := int64(1); through <= 12; through++ {
		for split := int64(1); split <= 12; split++ {
			for each := int64(1); each <= 2; each++ {
				for fewer := int64(0); fewer <= 4; fewer++ {
					want, wantCode := each*(2*through+2*split)-fewer, int64(impl.OK)
					if want < 3 {
						want, wantCode = 0, impl.ErrState
					}
					if got, code := impl.StakesFrom(base(through, split, 60, 10), each, fewer); got != want || code != wantCode {
						t.Errorf("StakesFrom with %d through %d, each %d, fewer %d = %d, %d, want %d, %d", through, split, each, fewer, got, code, want, wantCode)
					}
				}
			}
		}
	}
}

func TestStakesFromByHand(t *testing.T) {
	cases := []struct {
		b                       impl.Base
		each, fewer, want, code int64
	}{
		{base(4, 4, 60, 10), 2, 2, 30, impl.OK}, {base(4, 4, 60, 10), 1, 0, 16, impl.OK}, {base(12, 12, 60, 10), 2, 0, 96, impl.OK},
		{base(1, 1, 60, 10), 1, 0, 4, impl.OK}, {base(1, 1, 60, 10), 1, 1, 3, impl.OK}, {base(1, 1, 60, 10), 1, 2, 0, impl.ErrState}, {base(1, 1, 60, 10), 1, 4, 0, impl.ErrState},
		{base(1, 1, 60, 10), 2, 4, 4, impl.OK}, {base(2, 1, 60, 10), 1, 3, 3, impl.OK}, {base(1, 2, 60, 10), 1, 4, 0, impl.ErrState},
		// No round fits into this base; it has ends all the same.
		{base(12, 12, 10, 50), 1, 4, 44, impl.OK},
	}
	for _, c := range cases {
		if got, code := impl.StakesFrom(c.b, c.each, c.fewer); got != c.want || code != c.code {
			t.Errorf("StakesFrom(%v, %d, %d) = %d, %d, want %d, %d", c.b, c.each, c.fewer, got, code, c.want, c.code)
		}
	}
}

func TestStakesFromErrors(t *testing.T) {
	noEach, noFewer := []int64{math.MinInt64, -1, 0, 3, 4, math.MaxInt64}, []int64{math.MinInt64, -1, 5, 6, math.MaxInt64}
	// With the smallest base ErrState would be next; ErrRange goes before it.
	for _, b := range []impl.Base{base(4, 4, 60, 10), base(1, 1, 10, 1)} {
		for _, each := range noEach {
			for _, fewer := range append([]int64{0, 4}, noFewer...) {
				if got, code := impl.StakesFrom(b, each, fewer); got != 0 || code != impl.ErrRange {
					t.Errorf("StakesFrom(%v, %d, %d) = %d, %d", b, each, fewer, got, code)
				}
			}
		}
		for _, fewer := range noFewer {
			for _, each := range []int64{1, 2} {
				if got, code := impl.StakesFrom(b, each, fewer); got != 0 || code != impl.ErrRange {
					t.Errorf("StakesFrom(%v, %d, %d) = %d, %d", b, each, fewer, got, code)
				}
			}
		}
	}
	for _, b := range noBases() {
		for _, each := range append(noEach, 1, 2) {
			for _, fewer := range append(noFewer, 0, 4) {
				if got, code := impl.StakesFrom(b, each, fewer); got != 0 || code != impl.ErrInvalid {
					t.Errorf("StakesFrom(%v, %d, %d) = %d, %d", b, each, fewer, got, code)
				}
			}
		}
	}
}

// TestPromise7 checks that weavers are as long as all rounds, which are told one by one until there is none.
func TestPromise7(t *testing.T) {
	for _, b := range someBases() {
		var sum, k int64
		for {
			length, code := impl.LengthOfRing(b, k)
			if code == impl.ErrRange {
				break
			}
			if code != impl.OK {
				t.Fatalf("LengthOfRing(%v, %d) = %d, %d", b, k, length, code)
			}
			sum += length
			k++
		}
		if got, code := impl.WeaverFor(b); got != sum || code != impl.OK {
			t.Fatalf("WeaverFor(%v) = %d, %d, all rounds are %d long", b, got, code, sum)
		}
		if rings, code := impl.RingsOf(b); int64(len(rings)) != k || code != impl.OK {
			t.Fatalf("RingsOf(%v) = %v, %d, but LengthOfRing has %d rounds", b, rings, code, k)
		}
		var want int64
		for _, radius := range ringsBy(b) {
			want += lengthBy(radius)
		}
		if sum != want {
			t.Fatalf("all rounds of %v are %d long, want %d", b, sum, want)
		}
	}
}

// TestRounds compares all functions of the rounds of a base with rings that are laid one by one.
func TestRounds(t *testing.T) {
	for _, b := range someBases() {
		want := ringsBy(b)
		if got, code := impl.RingsOf(b); !slices.Equal(got, want) || code != impl.OK {
			t.Fatalf("RingsOf(%v) = %v, %d, want %v", b, got, code, want)
		}
		for k, radius := range want {
			if got, code := impl.LengthOfRing(b, int64(k)); got != lengthBy(radius) || code != impl.OK {
				t.Fatalf("LengthOfRing(%v, %d) = %d, %d, want %d", b, k, got, code, lengthBy(radius))
			}
			gap := gapBy(b, radius)
			if got, code := impl.GapsAt(b, int64(k)); got.Num != gap.Num().Int64() || got.Den != gap.Denom().Int64() || code != impl.OK {
				t.Fatalf("GapsAt(%v, %d) = %v, %d, want %v", b, k, got, code, gap)
			}
		}
		for _, k := range []int{len(want), len(want) + 1, 60, 61} {
			if got, code := impl.LengthOfRing(b, int64(k)); got != 0 || code != impl.ErrRange {
				t.Fatalf("LengthOfRing(%v, %d) = %d, %d", b, k, got, code)
			}
			if got, code := impl.GapsAt(b, int64(k)); got != (impl.Fraction{}) || code != impl.ErrRange {
				t.Fatalf("GapsAt(%v, %d) = %v, %d", b, k, got, code)
			}
		}
	}
}

func TestRingsByHand(t *testing.T) {
	cases := []struct {
		b      impl.Base
		want   []int64
		weaver int64
	}{
		{base(4, 4, 60, 10), []int64{45, 55}, 629}, {base(4, 4, 59, 10), []int64{45}, 283}, {base(4, 4, 50, 10), []int64{45}, 283}, {base(4, 4, 49, 10), nil, 0},
		// The greater number of sticks tells where the first round begins, whether they are pushed through or split.
		{base(2, 5, 60, 10), []int64{55}, 346}, {base(5, 2, 60, 10), []int64{55}, 346}, {base(2, 5, 59, 10), nil, 0},
		// Half an odd thickness is rounded down; half of 1 is 0.
		{base(1, 1, 15, 5), []int64{7, 12}, 44 + 76}, {base(1, 1, 10, 7), nil, 0}, {base(1, 1, 14, 7), []int64{10}, 63}, {base(1, 2, 10, 3), []int64{7}, 44},
		{base(2, 2, 10, 1), []int64{2, 3, 4, 5, 6, 7, 8, 9}, 13 + 19 + 26 + 32 + 38 + 44 + 51 + 57},
		// Sticks that meet where no round is left, or outside the base.
		{base(1, 1, 10, 10), nil, 0}, {base(12, 12, 10, 50), nil, 0}, {base(1, 1, 10, 50), nil, 0}, {base(12, 12, 600, 50), nil, 0}, {base(12, 1, 649, 50), nil, 0}, {base(12, 1, 650, 50), []int64{625}, 3929},
	}
	for _, c := range cases {
		if got, code := impl.RingsOf(c.b); !slices.Equal(got, c.want) || code != impl.OK {
			t.Errorf("RingsOf(%v) = %v, %d, want %v", c.b, got, code, c.want)
		}
		if got, code := impl.WeaverFor(c.b); got != c.weaver || code != impl.OK {
			t.Errorf("WeaverFor(%v) = %d, %d, want %d", c.b, got, code, c.weaver)
		}
	}
}

// TestMostRings checks bases into which MaxRings rounds fit just so, or one more.
func TestMostRings(t *testing.T) {
	cases := []struct {
		b           impl.Base
		rings, last int64
	}{
		{base(1, 1, 60, 1), 59, 59}, {base(1, 1, 61, 1), 60, 60}, {base(1, 1, 62, 1), 60, 60}, {base(1, 1, 1000, 1), 60, 60}, {base(12, 12, 1000, 1), 60, 71},
		{base(3, 1, 1000, 16), 59, 984}, {base(2, 1, 1000, 16), 60, 984}, {base(1, 1, 1000, 16), 60, 968},
	}
	for _, c := range cases {
		got, code := impl.RingsOf(c.b)
		if int64(len(got)) != c.rings || code != impl.OK || got[c.rings-1] != c.last {
			t.Errorf("RingsOf(%v) has %d rounds, %v, %d, want %d, the last one with %d", c.b, len(got), got, code, c.rings, c.last)
		}
		if _, code := impl.LengthOfRing(c.b, c.rings-1); code != impl.OK {
			t.Errorf("LengthOfRing(%v, %d): %d", c.b, c.rings-1, code)
		}
		if _, code := impl.LengthOfRing(c.b, c.rings); code != impl.ErrRange {
			t.Errorf("LengthOfRing(%v, %d): %d", c.b, c.rings, code)
		}
	}
}

func TestRoundErrors(t *testing.T) {
	numbers := []int64{math.MinInt64, -2, -1, 0, 1, 2, 60, 1 << 32, math.MaxInt64}
	for _, k := range numbers {
		// The first base has two rounds, the second one has none.
		for _, b := range []impl.Base{base(4, 4, 60, 10), base(12, 12, 10, 50)} {
			if b.Radius == 60 && (k == 0 || k == 1) {
				continue
			}
			if got, code := impl.LengthOfRing(b, k); got != 0 || code != impl.ErrRange {
				t.Errorf("LengthOfRing(%v, %d) = %d, %d", b, k, got, code)
			}
			if got, code := impl.GapsAt(b, k); got != (impl.Fraction{}) || code != impl.ErrRange {
				t.Errorf("GapsAt(%v, %d) = %v, %d", b, k, got, code)
			}
		}
		for _, b := range noBases() {
			if got, code := impl.LengthOfRing(b, k); got != 0 || code != impl.ErrInvalid {
				t.Errorf("LengthOfRing(%v, %d) = %d, %d", b, k, got, code)
			}
			if got, code := impl.GapsAt(b, k); got != (impl.Fraction{}) || code != impl.ErrInvalid {
				t.Errorf("GapsAt(%v, %d) = %v, %d", b, k, got, code)
			}
			if got, code := impl.FirstOpen(b, k); got != 0 || code != impl.ErrInvalid {
				t.Errorf("FirstOpen(%v, %d) = %d, %d", b, k, got, code)
			}
		}
	}
	for _, b := range noBases() {
		if got, code := impl.EndsOf(b); got != 0 || code != impl.ErrInvalid {
			t.Errorf("EndsOf(%v) = %d, %d", b, got, code)
		}
		if got, code := impl.RingsOf(b); len(got) != 0 || code != impl.ErrInvalid {
			t.Errorf("RingsOf(%v) = %v, %d", b, got, code)
		}
		if got, code := impl.WeaverFor(b); got != 0 || code != impl.ErrInvalid {
			t.Errorf("WeaverFor(%v) = %d, %d", b, got, code)
		}
	}
}

func TestLengthOfRingByHand(t *testing.T) {
	cases := []struct {
		b       impl.Base
		k, want int64
	}{
		{base(4, 4, 60, 10), 0, 283}, {base(4, 4, 60, 10), 1, 346}, {base(1, 1, 10, 1), 0, 7}, {base(1, 1, 10, 1), 1, 13},
		// A radius of 7 is 44 around without a rest.
		{base(1, 1, 10, 1), 6, 44}, {base(1, 1, 10, 1), 7, 51}, {base(1, 1, 10, 1), 8, 57}, {base(7, 7, 1000, 50), 11, 5815}, {base(7, 7, 1000, 50), 12, 6129},
	}
	for _, c := range cases {
		if got, code := impl.LengthOfRing(c.b, c.k); got != c.want || code != impl.OK {
			t.Errorf("LengthOfRing(%v, %d) = %d, %d, want %d", c.b, c.k, got, code, c.want)
		}
	}
}

// TestBaseFor looks from the most sticks down, so that the least one is found last.
func TestBaseFor(t *testing.T) {
	for stakes := int64(3); stakes <= 100; stakes++ {
		var through, split, fewer, wantCode int64 = 0, 0, 0, impl.ErrNotFound
		for sticks := int64(24); sticks >= 2; sticks-- {
			more := 4*sticks - stakes
			if more >= 0 && more <= 4 {
				through, split, fewer, wantCode = sticks/2+sticks%2, sticks/2, more, impl.OK
			}
		}
		a, b, c, code := impl.BaseFor(stakes)
		if a != through || b != split || c != fewer || code != wantCode {
			t.Errorf("BaseFor(%d) = %d, %d, %d, %d, want %d, %d, %d, %d", stakes, a, b, c, code, through, split, fewer, wantCode)
		}
		if code == impl.OK && !impl.ValidBase(base(a, b, 60, 10)) {
			t.Errorf("BaseFor(%d): no base has %d through %d", stakes, a, b)
		}
		// Twice as many stakes as ends, less those that are too many, are the stakes that were asked for.
		if n, _ := impl.StakesFrom(base(a, b, 60, 10), 2, c); code == impl.OK && n != stakes {
			t.Errorf("BaseFor(%d) = %d, %d, %d, from which %d stakes are made", stakes, a, b, c, n)
		}
	}
}

func TestBaseForByHand(t *testing.T) {
	cases := map[int64][4]int64{
		30: {4, 4, 2, impl.OK}, 12: {2, 1, 0, impl.OK}, 3: {0, 0, 0, impl.ErrNotFound}, 4: {1, 1, 4, impl.OK}, 5: {1, 1, 3, impl.OK}, 8: {1, 1, 0, impl.OK}, 9: {2, 1, 3, impl.OK},
		13: {2, 2, 3, impl.OK}, 16: {2, 2, 0, impl.OK}, 17: {3, 2, 3, impl.OK}, 20: {3, 2, 0, impl.OK}, 92: {12, 11, 0, impl.OK}, 93: {12, 12, 3, impl.OK}, 96: {12, 12, 0, impl.OK},
		97: {0, 0, 0, impl.ErrNotFound}, 100: {0, 0, 0, impl.ErrNotFound}, 101: {0, 0, 0, impl.ErrRange}, 2: {0, 0, 0, impl.ErrRange}, 0: {0, 0, 0, impl.ErrRange}, -30: {0, 0, 0, impl.ErrRange},
		math.MinInt64: {0, 0, 0, impl.ErrRange}, math.MaxInt64: {0, 0, 0, impl.ErrRange},
	}
	for stakes, want := range cases {
		through, split, fewer, code := impl.BaseFor(stakes)
		if got := [4]int64{through, split, fewer, code}; got != want {
			t.Errorf("BaseFor(%d) = %v, want %v", stakes, got, want)
		}
	}
}

func TestGapsAtByHand(t *testing.T) {
	cases := []struct {
		b    impl.Base
		k    int64
		want impl.Fraction
	}{
		{base(4, 4, 60, 10), 0, impl.Fraction{Num: 495, Den: 28}}, {base(4, 4, 60, 10), 1, impl.Fraction{Num: 605, Den: 28}},
		{base(1, 1, 10, 1), 0, impl.Fraction{Num: 11, Den: 7}}, {base(1, 1, 10, 1), 6, impl.Fraction{Num: 11, Den: 1}}, {base(12, 12, 1000, 1), 0, impl.Fraction{Num: 11, Den: 7}},
		{base(1, 2, 10, 3), 0, impl.Fraction{Num: 22, Den: 3}},
	}
	for _, c := range cases {
		if got, code := impl.GapsAt(c.b, c.k); got != c.want || code != impl.OK {
			t.Errorf("GapsAt(%v, %d) = %v, %d, want %v", c.b, c.k, got, code, c.want)
		}
	}
}

func TestFirstOpen(t *testing.T) {
	for i, b := range someBases() {
		radii := ringsBy(b)
		for least := int64(1); least <= 1000; least++ {
			if least > 20 && (int64(i)+least)%37 > 0 {
				continue
			}
			var want, wantCode int64 = 0, impl.ErrNotFound
			for k, radius := range slices.Backward(radii) {
				if gapBy(b, radius).Cmp(big.NewRat(least, 1)) >= 0 {
					want, wantCode = int64(k), impl.OK
				}
			}
			if got, code := impl.FirstOpen(b, least); got != want || code != wantCode {
				t.Fatalf("FirstOpen(%v, %d) = %d, %d, want %d, %d", b, least, got, code, want, wantCode)
			}
		}
	}
}

func TestFirstOpenByHand(t *testing.T) {
	cases := []struct {
		b                 impl.Base
		least, want, code int64
	}{
		{base(4, 4, 60, 10), 1, 0, impl.OK}, {base(4, 4, 60, 10), 17, 0, impl.OK}, {base(4, 4, 60, 10), 18, 1, impl.OK}, {base(4, 4, 60, 10), 21, 1, impl.OK}, {base(4, 4, 60, 10), 22, 0, impl.ErrNotFound},
		// At the round 6 ends are 11 apart, which is enough for 11.
		{base(1, 1, 10, 1), 11, 6, impl.OK}, {base(1, 1, 10, 1), 12, 7, impl.OK}, {base(1, 1, 10, 1), 10, 6, impl.OK}, {base(1, 1, 10, 1), 14, 8, impl.OK}, {base(1, 1, 10, 1), 15, 0, impl.ErrNotFound},
		{base(12, 12, 10, 50), 1, 0, impl.ErrNotFound}, {base(12, 12, 10, 50), 1000, 0, impl.ErrNotFound}, {base(4, 4, 60, 10), 1000, 0, impl.ErrNotFound},
		// With 4 ends, 636 is not radius enough for gaps of 1000, and 637 is: the round 12 has 675.
		{base(1, 1, 1000, 50), 1000, 12, impl.OK}, {base(1, 1, 674, 50), 1000, 0, impl.ErrNotFound}, {base(1, 1, 700, 50), 1000, 12, impl.OK},
	}
	for _, c := range cases {
		if got, code := impl.FirstOpen(c.b, c.least); got != c.want || code != c.code {
			t.Errorf("FirstOpen(%v, %d) = %d, %d, want %d, %d", c.b, c.least, got, code, c.want, c.code)
		}
	}
	for _, least := range []int64{math.MinInt64, -1, 0, 1001, 1002, math.MaxInt64} {
		for _, b := range []impl.Base{base(4, 4, 60, 10), base(12, 12, 10, 50), base(1, 1, 1000, 50)} {
			if got, code := impl.FirstOpen(b, least); got != 0 || code != impl.ErrRange {
				t.Errorf("FirstOpen(%v, %d) = %d, %d", b, least, got, code)
			}
		}
	}
}

func TestBaseText(t *testing.T) {
	cases := map[impl.Base]string{
		base(4, 4, 60, 10): "4 through 4, radius 60, weavers 10", base(1, 12, 1000, 50): "1 through 12, radius 1000, weavers 50", base(12, 1, 10, 1): "12 through 1, radius 10, weavers 1",
	}
	for b, want := range cases {
		if got := impl.BaseText(b); got != want {
			t.Errorf("BaseText(%v) = %q, want %q", b, got, want)
		}
	}
	for _, b := range noBases() {
		if got := impl.BaseText(b); got != "" {
			t.Errorf("BaseText(%v) = %q", b, got)
		}
	}
}

// TestRoundsAtOnce asks for the rounds of many bases at the same time; each call gets its own.
func TestRoundsAtOnce(t *testing.T) {
	var group sync.WaitGroup
	for _, b := range someBases() {
		group.Go(func() {
			want := ringsBy(b)
			for range 5 {
				if got, code := impl.RingsOf(b); !slices.Equal(got, want) || code != impl.OK {
					t.Errorf("RingsOf(%v) = %v, %d, want %v", b, got, code, want)
				}
			}
		})
	}
	group.Wait()
}

// TestNoWorkersLeft checks that no goroutine is left behind by calls that return.
func TestNoWorkersLeft(t *testing.T) {
	before := runtime.NumGoroutine()
	for _, b := range append(someBases(), noBases()...) {
		for k := int64(-1); k <= 2; k++ {
			impl.LengthOfRing(b, k)
			impl.GapsAt(b, k)
			impl.FirstOpen(b, k)
		}
		impl.WeaverFor(b)
	}
	if !isCalm(before) {
		t.Errorf("%d goroutines were there before all calls, and %d are now", before, runtime.NumGoroutine())
	}
}

// isCalm reports whether there are at most so many goroutines; those that are just ending get some time.
func isCalm(most int) bool {
	for range 100 {
		if runtime.NumGoroutine() <= most {
			return true
		}
		time.Sleep(10 * time.Millisecond)
	}
	return false
}
