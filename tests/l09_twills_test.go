package tests

import (
	"math"
	"math/big"
	"slices"
	"strconv"
	"strings"
	"testing"

	"loop.example/g01064/impl"
)

func twill(step int64, parts ...int64) impl.Twill { return impl.Twill{Parts: parts, Step: step} }

// twillsOf returns all drafts of a width, with all steps.
func twillsOf(width int64) []impl.Twill {
	var twills []impl.Twill
	var add func(left int64, parts []int64)
	add = func(left int64, parts []int64) {
		if left == 0 && len(parts)%2 == 0 {
			for step := int64(1); step < width; step++ {
				twills = append(twills, twill(step, parts...))
			}
		}
		for part := int64(1); part <= left; part++ {
			add(left-part, append(slices.Clone(parts), part))
		}
	}
	add(width, nil)
	return twills
}

// allTwills returns all valid drafts.
func allTwills() []impl.Twill {
	var twills []impl.Twill
	for width := int64(2); width <= 12; width++ {
		twills = append(twills, twillsOf(width)...)
	}
	return twills
}

// someTwills returns chosen drafts: ordinary ones, those at the limits, and those whose rows are something shorter again and again.
func someTwills() []impl.Twill {
	return []impl.Twill{
		twill(1, 2, 1), twill(2, 2, 1), twill(1, 1, 1), twill(1, 2, 2), twill(2, 2, 2), twill(3, 2, 2), twill(1, 3, 1), twill(2, 1, 2), twill(1, 1, 1, 2, 1), twill(2, 1, 1, 1, 2),
		twill(2, 1, 1, 1, 1), twill(1, 1, 1, 1, 1), twill(3, 1, 1, 1, 1), twill(2, 2, 2, 2, 2), twill(4, 2, 2, 2, 2), twill(6, 2, 2, 2, 2), twill(7, 2, 2, 2, 2),
		twill(1, 11, 1), twill(11, 11, 1), twill(11, 1, 11), twill(6, 6, 6), twill(6, 3, 3, 3, 3), twill(4, 2, 1, 2, 1, 2, 1, 2, 1), twill(3, 2, 1, 2, 1, 2, 1, 2, 1),
		twill(6, 1, 1, 1, 1, 1, 1, 1, 1, 1, 1, 1, 1), twill(11, 1, 1, 1, 1, 1, 1, 1, 1, 1, 1, 1, 1), twill(8, 1, 2, 1, 2, 1, 2, 1, 2), twill(5, 3, 1, 1, 1, 3, 1, 1, 1), twill(9, 1, 2, 2, 1, 1, 2, 2, 1),
	}
}

// noTwills returns drafts that are not valid.
func noTwills() []impl.Twill {
	return []impl.Twill{
		{}, {Step: 1}, {Parts: []int64{}, Step: 1}, twill(1, 2), twill(1, 12), twill(1, 2, 1, 1), twill(1, 1, 1, 1, 1, 1),
		twill(0, 2, 1), twill(3, 2, 1), twill(4, 2, 1), twill(-1, 2, 1), twill(-2, 2, 1), twill(math.MinInt64, 2, 1), twill(math.MaxInt64, 2, 1), twill(2, 1, 1), twill(0, 1, 1), twill(12, 6, 6), twill(13, 6, 6),
		twill(1, 0, 2), twill(1, 2, 0), twill(1, 0, 0), twill(1, 1, 1, 0, 1), twill(1, 2, 1, 0, 0), twill(1, -1, 3), twill(1, 4, -1), twill(1, -1, -1), twill(1, 12, 12, -6, -6), twill(1, 20, -10),
		twill(1, 12, 1), twill(1, 1, 12), twill(1, 13, 1), twill(1, 7, 6), twill(1, 1, 1, 1, 10), twill(1, 3, 3, 3, 4), twill(12, 7, 6),
		// Sums that are small only if they are computed modulo 2^64.
		twill(1, math.MaxInt64, math.MaxInt64, 3, 3), twill(1, math.MaxInt64, math.MaxInt64, 2, 2), twill(1, math.MinInt64, math.MinInt64, 2, 2), twill(1, 1<<62, 1<<62, 1<<62, 1<<62), twill(1, 1<<62+1, 1<<62, 1<<62, 1<<62+1, 1, 1),
		twill(1, math.MinInt64, math.MaxInt64, 2, 2), twill(1, math.MaxInt64, 1),
		twill(1, slices.Repeat([]int64{1}, 13)...), twill(1, slices.Repeat([]int64{1}, 14)...), twill(1, slices.Repeat([]int64{1}, 2000)...), twill(1, slices.Repeat([]int64{0}, 12)...), twill(1, slices.Repeat([]int64{1, -1}, 6)...),
	}
}

// noFaces returns numbers that are out of the range of stakes and of rounds.
func noFaces() []int64 {
	return []int64{math.MinInt64, -40, -1, 0, 41, 42, 1000, 1 << 32, math.MaxInt64}
}

// rowBy writes a row letter by letter.
func rowBy(t impl.Twill) string {
	row := ""
	for i, part := range t.Parts {
		for range part {
			row += []string{"F", "B"}[i%2]
		}
	}
	return row
}

// strokeBy finds the place of a stroke by going round the row step by step.
func strokeBy(t impl.Twill, stake, round int64) byte {
	row := rowBy(t)
	at := stake % int64(len(row))
	for range round {
		at -= t.Step
		if at < 0 {
			at += int64(len(row))
		}
	}
	return row[at]
}

// faceBy returns the face of a twill stroke by stroke.
func faceBy(t impl.Twill, stakes, rounds int64) []string {
	var face []string
	for r := range rounds {
		var round strings.Builder
		for k := range stakes {
			round.WriteByte(strokeBy(t, k, r))
		}
		face = append(face, round.String())
	}
	return face
}

// periodBy tries all numbers upwards.
func periodBy(row string) int64 {
	for p := 1; ; p++ {
		if len(row)%p == 0 && strings.Repeat(row[:p], len(row)/p) == row {
			return int64(p)
		}
	}
}

// roundsBy counts the moves by step until one stands at the first place again.
func roundsBy(places, step int64) int64 {
	rounds := int64(1)
	for at := step % places; at != 0; at = (at + step) % places {
		rounds++
	}
	return rounds
}

// draftBy returns the draft of a row that is turned letter by letter until it begins with F and ends with B.
func draftBy(row string, step int64) impl.Twill {
	for row[0] != 'F' || row[len(row)-1] != 'B' {
		row = row[1:] + row[:1]
	}
	var parts []int64
	for i, letters := range strings.FieldsFunc(strings.ReplaceAll(strings.ReplaceAll(row, "FB", "F B"), "BF", "B F"), func(r rune) bool { return r == ' ' }) {
		if letters[0] != "FB"[i%2] {
			panic("the letters don't take turns")
		}
		parts = append(parts, int64(len(letters)))
	}
	return impl.Twill{Parts: parts, Step: step}
}

// exchanged returns a text with F and B exchanged.
func exchanged(text string) string {
	return strings.Map(func(r rune) rune { return 'F' + 'B' - r }, text)
}

// backwards returns a text with its letters in the opposite order.
func backwards(text string) string {
	letters := []byte(text)
	slices.Reverse(letters)
	return string(letters)
}

func isTwill(t impl.Twill) bool {
	sum := new(big.Int)
	for _, part := range t.Parts {
		if part < 1 {
			return false
		}
		sum.Add(sum, big.NewInt(part))
	}
	return len(t.Parts) >= 2 && len(t.Parts)%2 == 0 && sum.Cmp(big.NewInt(12)) <= 0 && t.Step >= 1 && sum.Cmp(big.NewInt(t.Step)) > 0
}

func TestTwillLimits(t *testing.T) {
	if impl.MaxTwill != 12 || impl.MaxFace != 40 {
		t.Errorf("the limits are %d and %d", impl.MaxTwill, impl.MaxFace)
	}
}

func TestValidTwill(t *testing.T) {
	for _, x := range append(allTwills(), someTwills()...) {
		if !impl.ValidTwill(x) {
			t.Errorf("%v is valid", x)
		}
	}
	for _, x := range noTwills() {
		if impl.ValidTwill(x) || isTwill(x) {
			t.Errorf("%v is not valid", x)
		}
	}
	numbers := []int64{math.MinInt64, -1, 0, 1, 2, 3, 5, 6, 7, 10, 11, 12, 13, math.MaxInt64}
	for _, step := range numbers {
		for _, a := range numbers {
			check := func(parts ...int64) {
				if x := twill(step, parts...); impl.ValidTwill(x) != isTwill(x) {
					t.Errorf("%v: %v", x, impl.ValidTwill(x))
				}
			}
			check(a)
			for _, b := range numbers {
				check(a, b)
				for _, c := range numbers {
					check(a, b, c)
					for _, d := range numbers {
						check(a, b, c, d)
					}
				}
			}
		}
	}
	for count := range 30 {
		x := twill(1, slices.Repeat([]int64{1}, count)...)
		if got, want := impl.ValidTwill(x), count >= 2 && count <= 12 && count%2 == 0; got != want {
			t.Errorf("with %d parts: %v", count, got)
		}
	}
}

func TestSameTwill(t *testing.T) {
	twills := append(someTwills(), noTwills()[3:]...)
	for i, a := range twills {
		for k, b := range twills {
			copied := impl.Twill{Parts: slices.Clone(b.Parts), Step: b.Step}
			if got := impl.SameTwill(a, copied); got != (i == k) {
				t.Errorf("SameTwill(%v, %v) = %v", a, b, got)
			}
		}
	}
	if !impl.SameTwill(impl.Twill{Step: 1}, impl.Twill{Parts: []int64{}, Step: 1}) || !impl.SameTwill(impl.Twill{}, impl.Twill{}) || impl.SameTwill(impl.Twill{}, impl.Twill{Step: 1}) {
		t.Error("drafts without parts are equal just if their steps are")
	}
	// Of one face, but not equal.
	if impl.SameTwill(twill(2, 2, 2), twill(2, 2, 2, 2, 2)) || impl.SameTwill(twill(1, 1, 1), twill(1, 1, 1, 1, 1)) || impl.SameTwill(twill(1, 2, 1), twill(1, 1, 2)) || impl.SameTwill(twill(1, 2, 1, 1, 1), twill(1, 2, 1)) {
		t.Error("drafts with other parts are not equal")
	}
}

func TestRepeatOf(t *testing.T) {
	for _, x := range allTwills() {
		want := periodBy(rowBy(x))
		p, rounds, code := impl.RepeatOf(x)
		if p != want || rounds != roundsBy(want, x.Step) || code != impl.OK {
			t.Fatalf("RepeatOf(%v) = %d, %d, %d, want %d, %d", x, p, rounds, code, want, roundsBy(want, x.Step))
		}
	}
}

func TestRepeatOfByHand(t *testing.T) {
	cases := []struct {
		twill     impl.Twill
		p, rounds int64
	}{
		{twill(1, 2, 1), 3, 3}, {twill(2, 2, 1), 3, 3}, {twill(1, 1, 1), 2, 2}, {twill(1, 2, 2), 4, 4}, {twill(2, 2, 2), 4, 2}, {twill(3, 2, 2), 4, 4}, {twill(6, 6, 6), 12, 2}, {twill(8, 6, 6), 12, 3}, {twill(9, 6, 6), 12, 4},
		// Rows that are something shorter again and again: the rounds repeat after the period with the step, not after the width.
		{twill(2, 2, 2, 2, 2), 4, 2}, {twill(4, 2, 2, 2, 2), 4, 1}, {twill(6, 2, 2, 2, 2), 4, 2}, {twill(1, 2, 2, 2, 2), 4, 4}, {twill(1, 1, 1, 1, 1), 2, 2}, {twill(2, 1, 1, 1, 1), 2, 1}, {twill(3, 1, 1, 1, 1), 2, 2},
		{twill(3, 2, 1, 2, 1, 2, 1, 2, 1), 3, 1}, {twill(4, 2, 1, 2, 1, 2, 1, 2, 1), 3, 3}, {twill(6, 2, 1, 2, 1, 2, 1, 2, 1), 3, 1}, {twill(6, 3, 3, 3, 3), 6, 1}, {twill(4, 3, 3, 3, 3), 6, 3}, {twill(3, 3, 3, 3, 3), 6, 2},
		{twill(10, 1, 1, 1, 1, 1, 1, 1, 1, 1, 1, 1, 1), 2, 1}, {twill(11, 1, 1, 1, 1, 1, 1, 1, 1, 1, 1, 1, 1), 2, 2}, {twill(8, 1, 1, 2, 2, 1, 1, 2, 2), 6, 3},
		// Rows that begin and end alike, or end within what they begin with, but are nothing shorter again and again.
		{twill(1, 1, 1, 2, 1), 5, 5}, {twill(3, 1, 1, 1, 1, 2, 1), 7, 7}, {twill(2, 2, 1, 2, 1, 1, 1), 8, 4}, {twill(3, 2, 2, 2, 2, 2, 1), 11, 11}, {twill(4, 2, 2, 2, 2, 2, 2), 4, 1}, {twill(2, 1, 2, 2, 1), 6, 3}, {twill(4, 1, 1, 1, 1, 1, 3), 8, 2},
	}
	for _, c := range cases {
		if p, rounds, code := impl.RepeatOf(c.twill); p != c.p || rounds != c.rounds || code != impl.OK {
			t.Errorf("RepeatOf(%v) = %d, %d, %d, want %d, %d", c.twill, p, rounds, code, c.p, c.rounds)
		}
	}
}

// TestPromise9 checks that faces repeat after as many stakes and rounds as told, and after no fewer ones.
func TestPromise9(t *testing.T) {
	shorter, still := 0, 0
	for _, x := range allTwills() {
		face, code := impl.FaceOf(x, 40, 40)
		p, q, repeatCode := impl.RepeatOf(x)
		if code != impl.OK || repeatCode != impl.OK || len(face) != 40 {
			t.Fatalf("%v: %d rounds, %d, %d", x, len(face), code, repeatCode)
		}
		for stakes := int64(1); stakes <= p; stakes++ {
			repeats := true
			for _, round := range face {
				repeats = repeats && round[stakes:] == round[:40-stakes]
			}
			if repeats != (stakes == p) {
				t.Fatalf("%v repeats after %d stakes: %v, but %d is told", x, stakes, repeats, p)
			}
		}
		for rounds := int64(1); rounds <= q; rounds++ {
			if repeats := slices.Equal(face[rounds:], face[:40-rounds]); repeats != (rounds == q) {
				t.Fatalf("%v repeats after %d rounds: %v, but %d is told", x, rounds, repeats, q)
			}
		}
		if p < int64(len(rowBy(x))) {
			shorter++
		}
		if q == 1 {
			still++
		}
	}
	if shorter < 100 || still < 10 {
		t.Errorf("only %d rows are shorter ones again and again, and only %d faces have equal rounds", shorter, still)
	}
}

func TestFaceOf(t *testing.T) {
	for i, x := range allTwills() {
		stakes, rounds := int64(1+i%13), int64(1+i%14)
		if i%40 == 0 {
			stakes, rounds = 40, 40
		}
		if got, code := impl.FaceOf(x, stakes, rounds); !slices.Equal(got, faceBy(x, stakes, rounds)) || code != impl.OK {
			t.Fatalf("FaceOf(%v, %d, %d) = %q, %d", x, stakes, rounds, got, code)
		}
	}
	for _, x := range someTwills() {
		for stakes := int64(1); stakes <= 40; stakes++ {
			for _, rounds := range []int64{1, 2, 3, stakes, 41 - stakes, 40} {
				if got, code := impl.FaceOf(x, stakes, rounds); !slices.Equal(got, faceBy(x, stakes, rounds)) || code != impl.OK {
					t.Fatalf("FaceOf(%v, %d, %d) = %q, %d", x, stakes, rounds, got, code)
				}
			}
		}
	}
}

func TestFaceOfByHand(t *testing.T) {
	cases := []struct {
		twill          impl.Twill
		stakes, rounds int64
		want           []string
	}{
		{twill(1, 2, 1), 3, 3, []string{"FFB", "BFF", "FBF"}}, {twill(1, 2, 1), 7, 4, []string{"FFBFFBF", "BFFBFFB", "FBFFBFF", "FFBFFBF"}}, {twill(2, 2, 1), 3, 4, []string{"FFB", "FBF", "BFF", "FFB"}},
		{twill(1, 2, 1), 1, 1, []string{"F"}}, {twill(1, 2, 1), 1, 5, []string{"F", "B", "F", "F", "B"}}, {twill(1, 3, 1), 2, 5, []string{"FF", "BF", "FB", "FF", "FF"}},
		{twill(1, 1, 1), 4, 3, []string{"FBFB", "BFBF", "FBFB"}}, {twill(2, 1, 1, 1, 1), 4, 3, []string{"FBFB", "FBFB", "FBFB"}}, {twill(2, 2, 2), 5, 3, []string{"FFBBF", "BBFFB", "FFBBF"}},
		{twill(3, 2, 2), 4, 5, []string{"FFBB", "FBBF", "BBFF", "BFFB", "FFBB"}}, {twill(11, 11, 1), 12, 2, []string{"FFFFFFFFFFFB", "FFFFFFFFFFBF"}}, {twill(1, 11, 1), 13, 2, []string{"FFFFFFFFFFFBF", "BFFFFFFFFFFFB"}},
	}
	for _, c := range cases {
		if got, code := impl.FaceOf(c.twill, c.stakes, c.rounds); !slices.Equal(got, c.want) || code != impl.OK {
			t.Errorf("FaceOf(%v, %d, %d) = %q, %d, want %q", c.twill, c.stakes, c.rounds, got, code, c.want)
		}
	}
}

func TestFaceOfErrors(t *testing.T) {
	check := func(x impl.Twill, stakes, rounds, want int64) {
		if got, code := impl.FaceOf(x, stakes, rounds); len(got) != 0 || code != want {
			t.Errorf("FaceOf(%v, %d, %d) = %q, %d, want the code %d", x, stakes, rounds, got, code, want)
		}
	}
	for _, n := range noFaces() {
		for _, x := range someTwills() {
			for _, m := range []int64{1, 2, 40} {
				check(x, n, m, impl.ErrRange)
				check(x, m, n, impl.ErrRange)
			}
			for _, m := range noFaces() {
				check(x, n, m, impl.ErrRange)
			}
		}
		for _, x := range noTwills() {
			check(x, n, 3, impl.ErrInvalid)
			check(x, 3, n, impl.ErrInvalid)
			check(x, n, n, impl.ErrInvalid)
		}
	}
}

// TestFloatsOf looks at three repeats of all stakes and rounds.
func TestFloatsOf(t *testing.T) {
	stiff := 0
	for _, x := range allTwills() {
		row := rowBy(x)
		width := int64(len(row))
		rounds := roundsBy(width, x.Step)
		face := faceBy(x, width, 3*rounds)
		var high int64
		for stake := range width {
			along := columnOf(face, stake)
			if hasBoth(along) {
				high = max(high, runIn(along))
			} else {
				high = max(high, rounds)
				stiff++
			}
		}
		if wide, gotHigh, code := impl.FloatsOf(x); wide != runIn(row+row+row) || gotHigh != high || code != impl.OK {
			t.Fatalf("FloatsOf(%v) = %d, %d, %d, want %d, %d", x, wide, gotHigh, code, runIn(row+row+row), high)
		}
	}
	if stiff < 1000 {
		t.Errorf("only %d stakes have equal strokes in all rounds", stiff)
	}
}

func TestFloatsOfByHand(t *testing.T) {
	cases := []struct {
		twill      impl.Twill
		wide, high int64
	}{
		{twill(1, 2, 1), 2, 2}, {twill(2, 2, 1), 2, 2}, {twill(1, 1, 1), 1, 1}, {twill(1, 2, 2), 2, 2}, {twill(2, 2, 2), 2, 1}, {twill(3, 2, 2), 2, 2}, {twill(1, 1, 2, 3, 4), 4, 4}, {twill(9, 1, 2, 3, 4), 4, 4}, {twill(1, 4, 1), 4, 4},
		{twill(1, 11, 1), 11, 11}, {twill(11, 1, 11), 11, 11}, {twill(5, 6, 6), 6, 2}, {twill(6, 6, 6), 6, 1}, {twill(7, 6, 6), 6, 2}, {twill(3, 6, 6), 6, 2}, {twill(4, 6, 6), 6, 2}, {twill(2, 6, 6), 6, 3},
		// Some stakes, or all of them, have equal strokes for ever: the width is divided, also where the row is something shorter again and again.
		{twill(2, 1, 1, 1, 1), 1, 2}, {twill(2, 3, 1), 3, 2}, {twill(2, 1, 3), 3, 2}, {twill(4, 2, 2, 2, 2), 2, 2}, {twill(3, 2, 1, 2, 1, 2, 1, 2, 1), 2, 4}, {twill(6, 2, 1, 2, 1, 2, 1, 2, 1), 2, 2}, {twill(9, 2, 1, 2, 1, 2, 1, 2, 1), 2, 4},
		{twill(2, 1, 1, 1, 1, 1, 1, 1, 1, 1, 1, 1, 1), 1, 6}, {twill(10, 1, 1, 1, 1, 1, 1, 1, 1, 1, 1, 1, 1), 1, 6}, {twill(4, 1, 1, 1, 1, 1, 1, 1, 1, 1, 1, 1, 1), 1, 3}, {twill(3, 5, 1), 5, 2}, {twill(2, 11, 1), 11, 6}, {twill(6, 11, 1), 11, 2},
	}
	for _, c := range cases {
		if wide, high, code := impl.FloatsOf(c.twill); wide != c.wide || high != c.high || code != impl.OK {
			t.Errorf("FloatsOf(%v) = %d, %d, %d, want %d, %d", c.twill, wide, high, code, c.wide, c.high)
		}
	}
}

func TestShareFront(t *testing.T) {
	for _, x := range allTwills() {
		row := rowBy(x)
		want := big.NewRat(int64(strings.Count(row, "F")), int64(len(row)))
		if got, code := impl.ShareFront(x); got.Num != want.Num().Int64() || got.Den != want.Denom().Int64() || code != impl.OK {
			t.Fatalf("ShareFront(%v) = %v, %d, want %v", x, got, code, want)
		}
	}
	cases := []struct {
		twill    impl.Twill
		num, den int64
	}{
		{twill(1, 2, 1), 2, 3}, {twill(1, 1, 2), 1, 3}, {twill(1, 2, 2), 1, 2}, {twill(1, 1, 1), 1, 2}, {twill(1, 11, 1), 11, 12}, {twill(1, 1, 11), 1, 12}, {twill(1, 9, 3), 3, 4}, {twill(2, 2, 1, 2, 1), 2, 3}, {twill(3, 1, 2, 3, 4), 2, 5}, {twill(1, 3, 1, 1, 3), 1, 2},
	}
	for _, c := range cases {
		if got, code := impl.ShareFront(c.twill); got != (impl.Fraction{Num: c.num, Den: c.den}) || code != impl.OK {
			t.Errorf("ShareFront(%v) = %v, %d, want %d / %d", c.twill, got, code, c.num, c.den)
		}
	}
}

// TestBackOf compares the draft with that of the letters, and the face with that of the front in a mirror.
func TestBackOf(t *testing.T) {
	for _, x := range allTwills() {
		row := rowBy(x)
		width := int64(len(row))
		got, code := impl.BackOf(x)
		if want := draftBy(exchanged(backwards(row)), width-x.Step); !impl.SameTwill(got, want) || !impl.ValidTwill(got) || code != impl.OK {
			t.Fatalf("BackOf(%v) = %v, %d, want %v", x, got, code, want)
		}
		face, _ := impl.FaceOf(x, width, 13)
		back, _ := impl.FaceOf(got, width, 13)
		for r := range back {
			if back[r] != exchanged(backwards(face[r])) {
				t.Fatalf("the back %v of %v shows %q in the round %d, and its front shows %q", got, x, back[r], r, face[r])
			}
		}
		if again, code := impl.BackOf(got); !impl.SameTwill(again, x) || code != impl.OK {
			t.Fatalf("the back of the back %v of %v is %v, %d", got, x, again, code)
		}
	}
	cases := [][2]impl.Twill{
		{twill(1, 2, 1), twill(2, 1, 2)}, {twill(2, 2, 1), twill(1, 1, 2)}, {twill(1, 1, 1), twill(1, 1, 1)}, {twill(2, 2, 2), twill(2, 2, 2)}, {twill(1, 1, 2, 3, 4), twill(9, 4, 3, 2, 1)}, {twill(11, 11, 1), twill(1, 1, 11)},
		{twill(2, 1, 1, 1, 1), twill(2, 1, 1, 1, 1)}, {twill(3, 3, 1, 1, 2), twill(4, 2, 1, 1, 3)}, {twill(3, 2, 2, 2, 2), twill(5, 2, 2, 2, 2)}, {twill(1, 1, 3, 1, 2), twill(6, 2, 1, 3, 1)},
	}
	for _, c := range cases {
		if got, code := impl.BackOf(c[0]); !impl.SameTwill(got, c[1]) || code != impl.OK {
			t.Errorf("BackOf(%v) = %v, %d, want %v", c[0], got, code, c[1])
		}
	}
}

// TestIsPlain looks at all strokes and those next to them.
func TestIsPlain(t *testing.T) {
	plain := 0
	for _, x := range allTwills() {
		face := faceBy(x, 14, 14)
		want := true
		for r := range face {
			for k := range face[r] {
				want = want && (k == 0 || face[r][k] != face[r][k-1]) && (r == 0 || face[r][k] != face[r-1][k])
			}
		}
		if want {
			plain++
		}
		if got, code := impl.IsPlain(x); got != want || code != impl.OK {
			t.Fatalf("IsPlain(%v) = %v, %d, want %v", x, got, code, want)
		}
	}
	// One for each odd step of the rows FB, FBFB, and so on.
	if plain != 1+2+3+4+5+6 {
		t.Errorf("%d drafts are plain", plain)
	}
	cases := []struct {
		twill impl.Twill
		want  bool
	}{
		{twill(1, 1, 1), true}, {twill(1, 1, 1, 1, 1), true}, {twill(2, 1, 1, 1, 1), false}, {twill(3, 1, 1, 1, 1), true}, {twill(1, 2, 1), false}, {twill(2, 2, 2), false}, {twill(3, 3, 3), false}, {twill(6, 1, 1, 1, 1, 1, 1, 1, 1, 1, 1, 1, 1), false},
		{twill(11, 1, 1, 1, 1, 1, 1, 1, 1, 1, 1, 1, 1), true}, {twill(5, 1, 1, 1, 1, 1, 1, 1, 1, 1, 3), false}, {twill(1, 1, 1, 1, 2), false},
	}
	for _, c := range cases {
		if got, code := impl.IsPlain(c.twill); got != c.want || code != impl.OK {
			t.Errorf("IsPlain(%v) = %v, %d", c.twill, got, code)
		}
	}
}

// TestDraftFor checks all strokes with all steps.
func TestDraftFor(t *testing.T) {
	for _, row := range shortStrokes(12) {
		for step := int64(0); step <= int64(len(row)); step++ {
			var want impl.Twill
			code := int64(impl.OK)
			switch {
			case len(row) < 2:
				code = impl.ErrSyntax
			case step == 0 || step == int64(len(row)):
				code = impl.ErrRange
			case !hasBoth(row):
				code = impl.ErrState
			default:
				want = draftBy(row, step)
			}
			got, gotCode := impl.DraftFor(row, step)
			if !impl.SameTwill(got, want) || gotCode != code {
				t.Fatalf("DraftFor(%q, %d) = %v, %d, want %v, %d", row, step, got, gotCode, want, code)
			}
			if code == impl.OK && !impl.ValidTwill(got) {
				t.Fatalf("DraftFor(%q, %d) = %v, which is not valid", row, step, got)
			}
		}
	}
	for _, x := range allTwills() {
		// A row that begins with F and ends with B is not turned, so it gives its draft back.
		if got, code := impl.DraftFor(rowBy(x), x.Step); !impl.SameTwill(got, x) || code != impl.OK {
			t.Fatalf("DraftFor the row of %v: %v, %d", x, got, code)
		}
	}
}

func TestDraftForByHand(t *testing.T) {
	cases := []struct {
		row  string
		step int64
		want impl.Twill
	}{
		{"BFFB", 3, twill(3, 2, 2)}, {"FFBB", 1, twill(1, 2, 2)}, {"BBFF", 2, twill(2, 2, 2)}, {"FBBF", 3, twill(3, 2, 2)}, {"FB", 1, twill(1, 1, 1)}, {"BF", 1, twill(1, 1, 1)}, {"BFF", 2, twill(2, 2, 1)}, {"FBF", 1, twill(1, 2, 1)},
		// There are several such places; the first one is taken, which is the beginning where the row begins with F and ends with B.
		{"FBFFB", 1, twill(1, 1, 1, 2, 1)}, {"FFBFB", 4, twill(4, 2, 1, 1, 1)}, {"BFBFF", 2, twill(2, 1, 1, 2, 1)}, {"BFFBF", 2, twill(2, 2, 1, 1, 1)}, {"FBFBF", 3, twill(3, 1, 1, 2, 1)}, {"BFBFFB", 5, twill(5, 1, 1, 2, 2)},
		{"FBFB", 2, twill(2, 1, 1, 1, 1)}, {"BFBF", 3, twill(3, 1, 1, 1, 1)}, {"FFFFFFFFFFFB", 11, twill(11, 11, 1)}, {"BFFFFFFFFFFF", 1, twill(1, 11, 1)}, {"FBBBBBBBBBBB", 1, twill(1, 1, 11)}, {"BBBBBBBBBBBF", 11, twill(11, 1, 11)},
		{"FBFBFBFBFBFB", 6, twill(6, 1, 1, 1, 1, 1, 1, 1, 1, 1, 1, 1, 1)}, {"BBFFFBFBBBFF", 7, twill(7, 3, 1, 1, 3, 2, 2)},
	}
	for _, c := range cases {
		if got, code := impl.DraftFor(c.row, c.step); !impl.SameTwill(got, c.want) || code != impl.OK {
			t.Errorf("DraftFor(%q, %d) = %v, %d, want %v", c.row, c.step, got, code, c.want)
		}
	}
}

func TestDraftForErrors(t *testing.T) {
	check := func(row string, step, want int64) {
		if got, code := impl.DraftFor(row, step); len(got.Parts) != 0 || got.Step != 0 || code != want {
			t.Errorf("DraftFor(%q, %d) = %v, %d, want the code %d", row, step, got, code, want)
		}
	}
	steps := []int64{math.MinInt64, -12, -1, 0, 12, 13, 1 << 32, math.MaxInt64}
	for _, row := range append(noStrokes(), "F", "B") {
		for _, step := range append(steps, 1, 2, 11) {
			check(row, step, impl.ErrSyntax)
		}
	}
	for _, row := range []string{"FB", "BF", "FFB", "FFF", "BB", "FFFFFFFFFFFF", "FBFBFBFBFBFB"} {
		for _, step := range append(steps, int64(len(row))) {
			check(row, step, impl.ErrRange)
		}
	}
	for _, row := range oneKind() {
		for step := int64(1); step < int64(len(row)); step++ {
			check(row, step, impl.ErrState)
		}
	}
}

// faceIsMoved reports whether the face of b is that of a, moved by some stakes; faces of two widths are equal if they are so as far as both of them are wide.
func faceIsMoved(a, b impl.Twill) bool {
	front, other := faceBy(a, 36, 3), faceBy(b, 24, 3)
	for n := range 12 {
		isEqual := true
		for r := range other {
			isEqual = isEqual && front[r][n:n+24] == other[r]
		}
		if isEqual {
			return true
		}
	}
	return false
}

// TestSameFace compares all drafts of small widths, and all whose rows are something shorter again and again, with one another.
func TestSameFace(t *testing.T) {
	var twills []impl.Twill
	for _, x := range allTwills() {
		row := rowBy(x)
		if len(row) <= 5 || periodBy(row) <= 4 && int64(len(row)) > periodBy(row) {
			twills = append(twills, x)
		}
	}
	same, wider, stepped := 0, 0, 0
	for _, a := range twills {
		for _, b := range twills {
			want := faceIsMoved(a, b)
			if got, code := impl.SameFace(a, b); got != want || code != impl.OK {
				t.Fatalf("SameFace(%v, %v) = %v, %d, want %v", a, b, got, code, want)
			}
			if want {
				same++
				if len(rowBy(a)) != len(rowBy(b)) {
					wider++
				} else if a.Step != b.Step {
					stepped++
				}
			}
		}
	}
	if len(twills) < 150 || same < 1000 || wider < 500 || stepped < 200 {
		t.Errorf("of %d drafts %d are of one face, only %d of them with other widths and %d with other steps", len(twills), same, wider, stepped)
	}
}

// TestSameFaceTurned compares each draft with those of its row turned, with another step, and with one letter changed.
func TestSameFaceTurned(t *testing.T) {
	for i, x := range allTwills() {
		row := rowBy(x)
		width := int64(len(row))
		for n := range row {
			other := draftBy(row[n:]+row[:n], x.Step)
			if got, code := impl.SameFace(x, other); !got || code != impl.OK {
				t.Fatalf("SameFace(%v, %v) = %v, %d", x, other, got, code)
			}
			next := twill(x.Step%(width-1)+1, other.Parts...)
			if got, code := impl.SameFace(x, next); got != ((next.Step-x.Step)%periodBy(row) == 0) || code != impl.OK {
				t.Fatalf("SameFace(%v, %v) = %v, %d", x, next, got, code)
			}
			if changed := row[:n] + exchanged(row[n:n+1]) + row[n+1:]; i%5 == 0 && hasBoth(changed) {
				// One F more or less makes another face.
				if got, code := impl.SameFace(x, draftBy(changed, x.Step)); got || code != impl.OK {
					t.Fatalf("SameFace of %q and %q = %v, %d", row, changed, got, code)
				}
			}
		}
	}
}

func TestSameFaceByHand(t *testing.T) {
	cases := []struct {
		a, b impl.Twill
		want bool
	}{
		{twill(2, 2, 2, 2, 2), twill(2, 2, 2), true}, {twill(6, 2, 2, 2, 2), twill(2, 2, 2), true}, {twill(4, 2, 2, 2, 2), twill(2, 2, 2), false}, {twill(3, 2, 2, 2, 2), twill(3, 2, 2), true}, {twill(7, 2, 2, 2, 2), twill(3, 2, 2), true},
		{twill(1, 2, 1), twill(2, 2, 1), false}, {twill(1, 2, 1), twill(1, 2, 1), true}, {twill(1, 2, 1), twill(1, 1, 2), false}, {twill(1, 1, 1, 2, 1), twill(1, 2, 1, 1, 1), true}, {twill(2, 1, 1, 2, 1), twill(1, 2, 1, 1, 1), false},
		{twill(1, 1, 1), twill(1, 1, 1, 1, 1), true}, {twill(1, 1, 1), twill(2, 1, 1, 1, 1), false}, {twill(1, 1, 1), twill(3, 1, 1, 1, 1), true}, {twill(1, 1, 1), twill(11, 1, 1, 1, 1, 1, 1, 1, 1, 1, 1, 1, 1), true},
		{twill(2, 1, 1, 1, 1), twill(10, 1, 1, 1, 1, 1, 1, 1, 1, 1, 1, 1, 1), true}, {twill(2, 2, 1, 2, 1), twill(8, 2, 1, 2, 1, 2, 1, 2, 1), true}, {twill(2, 2, 1, 2, 1), twill(9, 2, 1, 2, 1, 2, 1, 2, 1), false},
		// Equal parts in another order, round about: some orders are turns of each other, and some are not.
		{twill(1, 1, 2, 3, 4), twill(1, 3, 4, 1, 2), true}, {twill(1, 1, 2, 3, 4), twill(1, 3, 2, 1, 4), false}, {twill(1, 1, 2, 3, 4), twill(1, 4, 3, 2, 1), false}, {twill(5, 1, 1, 2, 2, 1, 1), twill(5, 2, 2, 1, 1, 1, 1), true},
		// One row begins like the other one, but goes on in another way.
		{twill(1, 2, 1), twill(1, 2, 1, 2, 2), false}, {twill(1, 1, 1, 1, 2), twill(1, 1, 1), false}, {twill(1, 1, 1), twill(1, 1, 1, 1, 2), false},
	}
	for _, c := range cases {
		if got, code := impl.SameFace(c.a, c.b); got != c.want || code != impl.OK {
			t.Errorf("SameFace(%v, %v) = %v, %d", c.a, c.b, got, code)
		}
		if got, code := impl.SameFace(c.b, c.a); got != c.want || code != impl.OK {
			t.Errorf("SameFace(%v, %v) = %v, %d", c.b, c.a, got, code)
		}
	}
}

func TestTwillText(t *testing.T) {
	texts := map[string]bool{}
	twills := allTwills()
	for _, x := range twills {
		want := ""
		for i, part := range x.Parts {
			if i > 0 {
				want += "/"
			}
			want += strconv.FormatInt(part, 10)
		}
		want += " step " + strconv.FormatInt(x.Step, 10)
		got := impl.TwillText(x)
		if got != want {
			t.Fatalf("TwillText(%v) = %q, want %q", x, got, want)
		}
		texts[got] = true
	}
	if len(texts) != len(twills) {
		t.Errorf("%d drafts have %d texts", len(twills), len(texts))
	}
	cases := map[string]impl.Twill{"2/1 step 1": twill(1, 2, 1), "11/1 step 11": twill(11, 11, 1), "1/1/2/1 step 4": twill(4, 1, 1, 2, 1), "1/1/1/1/1/1/1/1/1/1/1/1 step 10": twill(10, slices.Repeat([]int64{1}, 12)...)}
	for want, x := range cases {
		if got := impl.TwillText(x); got != want {
			t.Errorf("TwillText(%v) = %q, want %q", x, got, want)
		}
	}
	for _, x := range noTwills() {
		if got := impl.TwillText(x); got != "" {
			t.Errorf("TwillText(%v) = %q", x, got)
		}
	}
}

func TestNoTwills(t *testing.T) {
	for _, x := range noTwills() {
		if p, rounds, code := impl.RepeatOf(x); p != 0 || rounds != 0 || code != impl.ErrInvalid {
			t.Errorf("RepeatOf(%v) = %d, %d, %d", x, p, rounds, code)
		}
		if got, code := impl.FaceOf(x, 3, 3); len(got) != 0 || code != impl.ErrInvalid {
			t.Errorf("FaceOf(%v) = %q, %d", x, got, code)
		}
		if wide, high, code := impl.FloatsOf(x); wide != 0 || high != 0 || code != impl.ErrInvalid {
			t.Errorf("FloatsOf(%v) = %d, %d, %d", x, wide, high, code)
		}
		if got, code := impl.ShareFront(x); got != (impl.Fraction{}) || code != impl.ErrInvalid {
			t.Errorf("ShareFront(%v) = %v, %d", x, got, code)
		}
		if got, code := impl.BackOf(x); len(got.Parts) != 0 || got.Step != 0 || code != impl.ErrInvalid {
			t.Errorf("BackOf(%v) = %v, %d", x, got, code)
		}
		if got, code := impl.IsPlain(x); got || code != impl.ErrInvalid {
			t.Errorf("IsPlain(%v) = %v, %d", x, got, code)
		}
		for _, other := range append(noTwills(), x, twill(1, 2, 1), twill(1, 1, 1)) {
			if got, code := impl.SameFace(x, other); got || code != impl.ErrInvalid {
				t.Errorf("SameFace(%v, %v) = %v, %d", x, other, got, code)
			}
			if got, code := impl.SameFace(other, x); got || code != impl.ErrInvalid {
				t.Errorf("SameFace(%v, %v) = %v, %d", other, x, got, code)
			}
		}
	}
}
