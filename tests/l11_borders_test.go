package tests

import (
	"math"
	"math/big"
	"slices"
	"strings"
	"testing"

	"loop.example/g01064/impl"
)

// bendsOf returns all words of bends with so many letters, in ascending order.
func bendsOf(letters int) []string {
	words := []string{""}
	for range letters {
		var longer []string
		for _, word := range words {
			longer = append(longer, word+"b", word+"f")
		}
		words = longer
	}
	return words
}

// allBends returns all valid words of bends.
func allBends() []string {
	var words []string
	for letters := 1; letters <= 8; letters++ {
		words = append(words, bendsOf(letters)...)
	}
	return words
}

// noBends returns texts that are no words of bends.
func noBends() []string {
	return []string{
		"", "x", "bx", "xb", "bfx", "xbf", "bxf", "a", "c", "e", "g", "B", "F", "bF", "Bf", "FB", "0", "-", " ", " b", "b ", "b f", "bf ", "\tb", "b\n", "\x00", "b\x00", "bf\x00f",
		"bbbbbbbbb", "fffffffff", "bfbfbfbfb", "ffffffffb", "bbbbbbbbx", "bbbbbbbb ", "bbbbbbbx", "xbbbbbbb", "bbbxffff", strings.Repeat("b", 16), strings.Repeat("bf", 128), strings.Repeat("f", 100000),
		// Other runes, one of which is b in its low byte, and bytes that are no UTF-8.
		"ä", "bä", "äb", "\u0162", "\uff42", "b\uff46", "\ufffd", "b\ufffdf", "\xff", "b\xff", "\xe2", "\xe2b", "bf\x80", "\xc1\xa2", "\xc1\xa6",
	}
}

// noStakesFor returns numbers of stakes on which no word with so many letters can be worked.
func noStakesFor(letters int64) []int64 {
	return []int64{math.MinInt64, math.MinInt64 + 1, -40, -10, -1, 0, 1, 2, letters - 1, letters, letters + 1, 41, 42, 60, 100, 1 << 32, 1<<32 + 10, math.MaxInt64}
}

// bentBy bends a rod down and leads it around the border stake by stake; it returns the stakes behind which it passes, and the one at which it ends.
func bentBy(word string, stakes, stake int64) (covers []int64, end int64) {
	at := stake
	next := func() {
		at++
		if at == stakes {
			at = 0
		}
	}
	for i := range len(word) {
		next()
		if word[i] == 'b' {
			covers = append(covers, at)
		}
	}
	next()
	return covers, at
}

// outBy draws rods out of a border as long as there is one that can be drawn out, where one rod is cut if its number is not negative; it returns those that are out.
func outBy(word string, stakes, cut int64) map[int64]bool {
	out := map[int64]bool{}
	if cut >= 0 {
		out[cut] = true
	}
	for again := true; again; {
		again = false
		for stake := range stakes {
			covers, _ := bentBy(word, stakes, stake)
			isHeld := slices.ContainsFunc(covers, func(over int64) bool { return !out[over] })
			if !out[stake] && !isHeld {
				out[stake], again = true, true
			}
		}
	}
	return out
}

// turnsBy returns all turns of a word, the word itself first.
func turnsBy(word string) []string {
	turns := []string{word}
	for range len(word) - 1 {
		word = word[1:] + word[:1]
		turns = append(turns, word)
	}
	return turns
}

// eachBorder calls visit with all words on all numbers of stakes.
func eachBorder(visit func(word string, stakes int64)) {
	for _, word := range allBends() {
		for stakes := int64(len(word)) + 2; stakes <= 40; stakes++ {
			visit(word, stakes)
		}
	}
}

func TestBorderLimits(t *testing.T) {
	if impl.MaxBend != 8 || impl.MaxBorder != 40 || impl.MaxListed != 8 {
		t.Errorf("the limits are %d, %d and %d", impl.MaxBend, impl.MaxBorder, impl.MaxListed)
	}
}

func TestValidBends(t *testing.T) {
	for _, word := range allBends() {
		if !impl.ValidBends(word) {
			t.Errorf("not ValidBends(%q)", word)
		}
	}
	for _, word := range append(noBends(), bendsOf(9)...) {
		if impl.ValidBends(word) {
			t.Errorf("ValidBends(%q)", word)
		}
	}
	for n := range 256 {
		letter := string([]byte{byte(n)})
		for _, word := range []string{letter, "b" + letter, letter + "f", "bf" + letter + "bf"} {
			if got, want := impl.ValidBends(word), n == 'b' || n == 'f'; got != want {
				t.Errorf("ValidBends(%q) = %v", word, got)
			}
		}
	}
}

func TestBentRods(t *testing.T) {
	eachBorder(func(word string, stakes int64) {
		for stake := range stakes {
			covers, end := bentBy(word, stakes, stake)
			if got, code := impl.EndOfBend(word, stakes, stake); got != end || code != impl.OK {
				t.Fatalf("EndOfBend(%s, %d, %d) = %d, %d, want %d", word, stakes, stake, got, code, end)
			}
			if got, code := impl.CoversOf(word, stakes, stake); !slices.Equal(got, covers) || code != impl.OK {
				t.Fatalf("CoversOf(%s, %d, %d) = %v, %d, want %v", word, stakes, stake, got, code, covers)
			}
		}
	})
}

func TestBentRodsByHand(t *testing.T) {
	cases := []struct {
		word          string
		stakes, stake int64
		covers        []int64
		end           int64
	}{
		{"bbf", 10, 8, []int64{9, 0}, 2}, {"bfb", 10, 8, []int64{9, 1}, 2}, {"bfb", 10, 0, []int64{1, 3}, 4}, {"fbf", 10, 9, []int64{1}, 3}, {"fff", 10, 6, nil, 0}, {"bfb", 10, 5, []int64{6, 8}, 9},
		// The fewest stakes, where a rod ends just before its own one, and the most.
		{"b", 3, 0, []int64{1}, 2}, {"b", 3, 1, []int64{2}, 0}, {"b", 3, 2, []int64{0}, 1}, {"f", 3, 2, nil, 1}, {"bf", 4, 2, []int64{3}, 1}, {"fb", 4, 3, []int64{1}, 2}, {"bb", 4, 3, []int64{0, 1}, 2},
		{"bbbbbbbb", 10, 5, []int64{6, 7, 8, 9, 0, 1, 2, 3}, 4}, {"bbbbbbbb", 10, 0, []int64{1, 2, 3, 4, 5, 6, 7, 8}, 9}, {"fffffffb", 10, 5, []int64{3}, 4}, {"bfffffff", 10, 9, []int64{0}, 8}, {"ffffffff", 10, 9, nil, 8},
		{"b", 40, 39, []int64{0}, 1}, {"b", 40, 38, []int64{39}, 0}, {"bbffbbff", 40, 35, []int64{36, 37, 0, 1}, 4}, {"ffffffff", 40, 31, nil, 0},
	}
	for _, c := range cases {
		if covers, code := impl.CoversOf(c.word, c.stakes, c.stake); !slices.Equal(covers, c.covers) || code != impl.OK {
			t.Errorf("CoversOf(%s, %d, %d) = %v, %d, want %v", c.word, c.stakes, c.stake, covers, code, c.covers)
		}
		if end, code := impl.EndOfBend(c.word, c.stakes, c.stake); end != c.end || code != impl.OK {
			t.Errorf("EndOfBend(%s, %d, %d) = %d, %d, want %d", c.word, c.stakes, c.stake, end, code, c.end)
		}
	}
}

func TestLockedAndDrawnOut(t *testing.T) {
	eachBorder(func(word string, stakes int64) {
		wantLocked := len(outBy(word, stakes, -1)) == 0
		if got, code := impl.IsLocked(word, stakes); got != wantLocked || code != impl.OK {
			t.Fatalf("IsLocked(%s, %d) = %v, %d", word, stakes, got, code)
		}
		want := int64(len(outBy(word, stakes, 0)))
		if got, code := impl.DrawnOut(word, stakes); got != want || code != impl.OK {
			t.Fatalf("DrawnOut(%s, %d) = %d, %d, want %d", word, stakes, got, code, want)
		}
	})
}

// TestDrawnOutByPlaces checks that no rod is held without b, that each one is held by the one at a fixed distance with one b, and that two hold it for good.
func TestDrawnOutByPlaces(t *testing.T) {
	eachBorder(func(word string, stakes int64) {
		behinds, want := strings.Count(word, "b"), int64(1)
		if behinds == 0 {
			want = stakes
		}
		if behinds == 1 {
			far := big.NewInt(int64(strings.Index(word, "b")) + 1)
			want = stakes / new(big.Int).GCD(nil, nil, far, big.NewInt(stakes)).Int64()
		}
		if got, code := impl.DrawnOut(word, stakes); got != want || code != impl.OK {
			t.Fatalf("DrawnOut(%s, %d) = %d, %d, want %d", word, stakes, got, code, want)
		}
		if is, code := impl.IsLocked(word, stakes); is != (behinds > 0) || code != impl.OK {
			t.Fatalf("IsLocked(%s, %d) = %v, %d", word, stakes, is, code)
		}
	})
}

func TestLockedAndDrawnOutByHand(t *testing.T) {
	cases := []struct {
		word   string
		stakes int64
		locked bool
		out    int64
	}{
		{"b", 10, true, 10}, {"bb", 10, true, 1}, {"ff", 10, false, 10}, {"fb", 10, true, 5}, {"bfb", 10, true, 1}, {"bf", 10, true, 10}, {"bff", 10, true, 10}, {"ffb", 10, true, 10}, {"bbf", 10, true, 1},
		// All come out, or some, as the stakes are a multiple of the distance or not.
		{"fb", 9, true, 9}, {"fb", 4, true, 2}, {"fb", 5, true, 5}, {"ffb", 9, true, 3}, {"ffb", 5, true, 5}, {"ffb", 6, true, 2}, {"fffb", 6, true, 3}, {"fffb", 8, true, 2}, {"fffb", 12, true, 3}, {"fffffb", 40, true, 20}, {"fffffffb", 10, true, 5}, {"fffffffb", 40, true, 5}, {"fffffffb", 16, true, 2}, {"fffffffb", 11, true, 11},
		{"f", 3, false, 3}, {"b", 3, true, 3}, {"b", 40, true, 40}, {"f", 40, false, 40}, {"ffffffff", 10, false, 10}, {"ffffffff", 40, false, 40}, {"bbbbbbbb", 10, true, 1}, {"bbbbbbbb", 40, true, 1}, {"fbfb", 6, true, 1}, {"bffffffb", 10, true, 1}, {"ffffffbb", 40, true, 1},
	}
	for _, c := range cases {
		if is, code := impl.IsLocked(c.word, c.stakes); is != c.locked || code != impl.OK {
			t.Errorf("IsLocked(%s, %d) = %v, %d", c.word, c.stakes, is, code)
		}
		if out, code := impl.DrawnOut(c.word, c.stakes); out != c.out || code != impl.OK {
			t.Errorf("DrawnOut(%s, %d) = %d, %d, want %d", c.word, c.stakes, out, code, c.out)
		}
	}
}

// TestPromise11 checks that locked words keep all rods but the cut one, whichever this is, and that the words of all other cycles don't.
func TestPromise11(t *testing.T) {
	for length := int64(1); length <= 8; length++ {
		listed, listCode := impl.ListWords(length)
		for stakes := length + 2; stakes <= 40; stakes++ {
			locked, code := impl.LockedWords(length, stakes)
			if listCode != impl.OK || code != impl.OK || !slices.IsSorted(locked) {
				t.Fatalf("LockedWords(%d, %d) = %v, %d, of %v, %d", length, stakes, locked, code, listed, listCode)
			}
			told := 0
			for _, word := range listed {
				out, outCode := impl.DrawnOut(word, stakes)
				isLocked := slices.Contains(locked, word)
				if outCode != impl.OK || isLocked != (out == 1) || isLocked != (len(outBy(word, stakes, 0)) == 1) {
					t.Fatalf("LockedWords(%d, %d) = %v, and with %s %d, %d rods come out", length, stakes, locked, word, out, outCode)
				}
				if !isLocked {
					continue
				}
				told++
				for cut := range stakes {
					if out := outBy(word, stakes, cut); len(out) != 1 || !out[cut] {
						t.Fatalf("LockedWords(%d, %d) = %v, but with %s the rods %v come out if %d is cut", length, stakes, locked, word, out, cut)
					}
				}
			}
			if told != len(locked) {
				t.Fatalf("LockedWords(%d, %d) = %v, of which only %d are among %v", length, stakes, locked, told, listed)
			}
		}
	}
}

func TestLockedWordsByHand(t *testing.T) {
	cases := []struct {
		length, stakes int64
		words          string
	}{
		{1, 3, ""}, {1, 10, ""}, {1, 40, ""}, {2, 4, "bb"}, {2, 40, "bb"}, {3, 10, "bbb bbf"}, {3, 5, "bbb bbf"}, {3, 40, "bbb bbf"}, {4, 6, "bbbb bbbf bbff bfbf"}, {4, 40, "bbbb bbbf bbff bfbf"},
		{5, 7, "bbbbb bbbbf bbbff bbfbf bbfff bfbff"}, {6, 8, "bbbbbb bbbbbf bbbbff bbbfbf bbbfff bbfbbf bbfbff bbffbf bbffff bfbfbf bfbfff bffbff"},
	}
	for _, c := range cases {
		if words, code := impl.LockedWords(c.length, c.stakes); strings.Join(words, " ") != c.words || code != impl.OK {
			t.Errorf("LockedWords(%d, %d) = %v, %d, want %s", c.length, c.stakes, words, code, c.words)
		}
	}
	for _, stakes := range []int64{10, 23, 40} { // all but those with one b and with none
		if words, code := impl.LockedWords(8, stakes); len(words) != 34 || code != impl.OK {
			t.Errorf("LockedWords(8, %d) = %v, %d", stakes, words, code)
		}
	}
}

func TestFirstWord(t *testing.T) {
	for _, word := range allBends() {
		turns := turnsBy(word)
		for _, turn := range turns {
			if got, code := impl.FirstWord(turn); got != slices.Min(turns) || code != impl.OK {
				t.Errorf("FirstWord(%s) = %q, %d, want %s", turn, got, code, slices.Min(turns))
			}
		}
	}
}

func TestFirstWordByHand(t *testing.T) {
	cases := map[string]string{
		"b": "b", "f": "f", "bf": "bf", "fb": "bf", "ffb": "bff", "fbf": "bff", "bfb": "bbf", "fbb": "bbf", "fff": "fff", "bbbbbbbb": "bbbbbbbb", "ffffffff": "ffffffff",
		// Words that are themselves again before they are turned all around.
		"fbfb": "bfbf", "bfbf": "bfbf", "fbfbfb": "bfbfbf", "fbbfbb": "bbfbbf", "ffbffb": "bffbff", "fbfbfbfb": "bfbfbfbf", "bfbbbfbb": "bbbfbbbf", "ffbbffbb": "bbffbbff", "bffbbffb": "bbffbbff", "fffbfffb": "bfffbfff",
		// Turns that are alike for long, and that begin behind the end.
		"bfbbfbbb": "bbbbfbbf", "fbffbfff": "bffbffff", "bfbbfbbf": "bbfbbfbf", "bbfbbfbf": "bbfbbfbf", "fffffffb": "bfffffff", "bfffffff": "bfffffff", "fbbbbbbb": "bbbbbbbf", "bbfffbbb": "bbbbbfff", "bfbfbffb": "bbfbfbff", "fbfbbfbb": "bbfbbfbf",
	}
	for word, want := range cases {
		if got, code := impl.FirstWord(word); got != want || code != impl.OK {
			t.Errorf("FirstWord(%s) = %q, %d, want %s", word, got, code, want)
		}
	}
}

// TestSameBorder checks all pairs of words: those of one cycle have one length, and one is found in the other one written twice.
func TestSameBorder(t *testing.T) {
	words := allBends()
	for _, a := range words {
		for _, b := range words {
			want := len(a) == len(b) && strings.Contains(a+a, b)
			if got, code := impl.SameBorder(a, b); got != want || code != impl.OK {
				t.Fatalf("SameBorder(%s, %s) = %v, %d", a, b, got, code)
			}
		}
	}
}

func TestSameBorderByHand(t *testing.T) {
	cases := []struct {
		a, b string
		want bool
	}{
		{"bfb", "fbb", true}, {"bf", "bff", false}, {"b", "b", true}, {"f", "f", true}, {"b", "f", false}, {"bf", "fb", true}, {"bb", "ff", false}, {"bbff", "ffbb", true}, {"bffb", "bbff", true}, {"bfffffff", "fffffffb", true},
		// The same bends again and again, once and twice, and as many b in other places.
		{"b", "bb", false}, {"ff", "ffff", false}, {"bf", "bfbf", false}, {"bfbf", "fb", false}, {"bfbf", "fbfb", true}, {"bfbfbfbf", "fbfbfbfb", true}, {"bfbf", "bbff", false}, {"bffbff", "fbffbf", true}, {"bffbff", "bfbfff", false}, {"bbfbbf", "fbbfbb", true}, {"bbfbbf", "bbf", false},
		// Neither words that are read from their ends nor those with the other bends are turned ones.
		{"bbfbff", "ffbfbb", false}, {"bbfbff", "bbffbf", false}, {"bbf", "ffb", false}, {"bbfbff", "ffbbfb", true}, {"bbfbf", "fbfbb", true},
	}
	for _, c := range cases {
		for _, pair := range [][2]string{{c.a, c.b}, {c.b, c.a}} {
			if got, code := impl.SameBorder(pair[0], pair[1]); got != c.want || code != impl.OK {
				t.Errorf("SameBorder(%s, %s) = %v, %d", pair[0], pair[1], got, code)
			}
		}
	}
}

// TestListWords checks that the list has the least turn of each word, and each one once.
func TestListWords(t *testing.T) {
	for length, count := range []int{0, 2, 3, 4, 6, 8, 14, 20, 36} {
		if length == 0 {
			continue
		}
		var want []string
		for _, word := range bendsOf(length) {
			if first := slices.Min(turnsBy(word)); !slices.Contains(want, first) {
				want = append(want, first)
			}
		}
		slices.Sort(want)
		got, code := impl.ListWords(int64(length))
		if !slices.Equal(got, want) || len(got) != count || code != impl.OK {
			t.Errorf("ListWords(%d) = %v, %d, want %v", length, got, code, want)
		}
	}
}

func TestListWordsByHand(t *testing.T) {
	cases := []struct {
		length int64
		words  string
	}{
		{1, "b f"}, {2, "bb bf ff"}, {3, "bbb bbf bff fff"}, {4, "bbbb bbbf bbff bfbf bfff ffff"}, {5, "bbbbb bbbbf bbbff bbfbf bbfff bfbff bffff fffff"},
		{6, "bbbbbb bbbbbf bbbbff bbbfbf bbbfff bbfbbf bbfbff bbffbf bbffff bfbfbf bfbfff bffbff bfffff ffffff"},
	}
	for _, c := range cases {
		if words, code := impl.ListWords(c.length); strings.Join(words, " ") != c.words || code != impl.OK {
			t.Errorf("ListWords(%d) = %v, %d, want %s", c.length, words, code, c.words)
		}
	}
}

func TestRodForBorder(t *testing.T) {
	eachBorder(func(word string, stakes int64) {
		for _, around := range []int64{100, 101, 127, 400, 999, 1000, 1001, 2503, 4999, 5000} {
			part := big.NewRat(around, stakes)
			want := big.NewRat(0, 1)
			for range len(word) + 1 {
				want.Add(want, part)
			}
			for range strings.Count(word, "b") {
				want.Add(want, new(big.Rat).Mul(part, big.NewRat(1, 10)))
			}
			got, code := impl.RodForBorder(word, around, stakes)
			// The least whole number that is not less.
			if code != impl.OK || big.NewRat(got, 1).Cmp(want) < 0 || big.NewRat(got-1, 1).Cmp(want) >= 0 {
				t.Fatalf("RodForBorder(%s, %d, %d) = %d, %d, want %v, rounded up", word, around, stakes, got, code, want)
			}
		}
	})
}

func TestRodForBorderByHand(t *testing.T) {
	cases := []struct {
		word                 string
		around, stakes, want int64
	}{
		{"bbf", 1000, 20, 210}, {"fff", 1000, 20, 200}, {"fbf", 1000, 20, 205}, {"b", 100, 3, 70}, {"b", 101, 3, 71}, {"f", 100, 3, 67}, {"f", 150, 3, 100}, {"f", 151, 3, 101}, {"f", 149, 3, 100}, {"b", 100, 40, 6}, {"f", 100, 40, 5},
		{"bf", 399, 40, 31}, {"bf", 400, 40, 31}, {"fb", 400, 40, 31}, {"bf", 401, 40, 32}, {"bbbbbbbb", 5000, 10, 4900}, {"ffffffff", 5000, 10, 4500}, {"bbbbbbbb", 100, 10, 98}, {"ffffffff", 100, 40, 23}, {"b", 5000, 3, 3500},
	}
	for _, c := range cases {
		if got, code := impl.RodForBorder(c.word, c.around, c.stakes); got != c.want || code != impl.OK {
			t.Errorf("RodForBorder(%s, %d, %d) = %d, %d, want %d", c.word, c.around, c.stakes, got, code, c.want)
		}
	}
}

// checkBorderErrors checks that all functions with a word and stakes return one code and zeros.
func checkBorderErrors(t *testing.T, word string, stakes, stake, around, want int64) {
	t.Helper()
	numbers := map[string]func() (int64, int64){
		"EndOfBend":    func() (int64, int64) { return impl.EndOfBend(word, stakes, stake) },
		"DrawnOut":     func() (int64, int64) { return impl.DrawnOut(word, stakes) },
		"RodForBorder": func() (int64, int64) { return impl.RodForBorder(word, around, stakes) },
	}
	for name, f := range numbers {
		if n, code := f(); n != 0 || code != want {
			t.Errorf("%s of %q, %d, %d and %d = %d, %d, want the code %d", name, word, stakes, stake, around, n, code, want)
		}
	}
	if covers, code := impl.CoversOf(word, stakes, stake); len(covers) != 0 || code != want {
		t.Errorf("CoversOf(%q, %d, %d) = %v, %d, want the code %d", word, stakes, stake, covers, code, want)
	}
	if is, code := impl.IsLocked(word, stakes); is || code != want {
		t.Errorf("IsLocked(%q, %d) = %v, %d, want the code %d", word, stakes, is, code, want)
	}
}

func TestNoBends(t *testing.T) {
	for _, word := range noBends() {
		for _, stakes := range append(noStakesFor(int64(len(word))), 3, 10, 40) { // no word comes before no stakes
			for _, other := range []int64{math.MinInt64, -1, 0, 2, 99, 100, 5000, 5001, math.MaxInt64} {
				checkBorderErrors(t, word, stakes, other, other, impl.ErrSyntax)
			}
		}
		if first, code := impl.FirstWord(word); first != "" || code != impl.ErrSyntax {
			t.Errorf("FirstWord(%q) = %q, %d", word, first, code)
		}
		for _, other := range append(noBends(), "b", "bf", "bbbbbbbb", word) {
			for _, pair := range [][2]string{{word, other}, {other, word}} {
				if is, code := impl.SameBorder(pair[0], pair[1]); is || code != impl.ErrSyntax {
					t.Errorf("SameBorder(%q, %q) = %v, %d", pair[0], pair[1], is, code)
				}
			}
		}
	}
}

func TestNoStakesForBends(t *testing.T) {
	for _, word := range allBends() {
		for _, stakes := range noStakesFor(int64(len(word))) {
			checkBorderErrors(t, word, stakes, 0, 1000, impl.ErrRange)
		}
	}
}

func TestNoSuchStakeAndRim(t *testing.T) {
	eachBorder(func(word string, stakes int64) {
		for _, stake := range []int64{math.MinInt64, -stakes, -1, stakes, stakes + 1, 2 * stakes, 1 << 32, math.MaxInt64 - 8, math.MaxInt64} {
			if end, code := impl.EndOfBend(word, stakes, stake); end != 0 || code != impl.ErrRange {
				t.Fatalf("EndOfBend(%s, %d, %d) = %d, %d", word, stakes, stake, end, code)
			}
			if covers, code := impl.CoversOf(word, stakes, stake); len(covers) != 0 || code != impl.ErrRange {
				t.Fatalf("CoversOf(%s, %d, %d) = %v, %d", word, stakes, stake, covers, code)
			}
		}
		for _, around := range []int64{math.MinInt64, -1000, -1, 0, 1, 99, 5001, 5002, 1 << 32, 1 << 60, math.MaxInt64} {
			if n, code := impl.RodForBorder(word, around, stakes); n != 0 || code != impl.ErrRange {
				t.Fatalf("RodForBorder(%s, %d, %d) = %d, %d", word, around, stakes, n, code)
			}
		}
	})
}

func TestNoLengths(t *testing.T) {
	for _, length := range []int64{math.MinInt64, -8, -1, 0, 9, 10, 38, 1 << 32, math.MaxInt64 - 1, math.MaxInt64} {
		if words, code := impl.ListWords(length); len(words) != 0 || code != impl.ErrRange {
			t.Errorf("ListWords(%d) = %v, %d", length, words, code)
		}
		for _, stakes := range append(noStakesFor(8), 3, 10, 11, 12, 40) {
			if words, code := impl.LockedWords(length, stakes); len(words) != 0 || code != impl.ErrRange {
				t.Errorf("LockedWords(%d, %d) = %v, %d", length, stakes, words, code)
			}
		}
	}
	for length := int64(1); length <= 8; length++ {
		for _, stakes := range noStakesFor(length) {
			if words, code := impl.LockedWords(length, stakes); len(words) != 0 || code != impl.ErrRange {
				t.Errorf("LockedWords(%d, %d) = %v, %d", length, stakes, words, code)
			}
		}
	}
}
