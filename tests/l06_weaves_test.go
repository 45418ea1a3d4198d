package tests

import (
	"math"
	"math/rand"
	"slices"
	"strings"
	"testing"

	"loop.example/g01064/impl"
)

// shortStrokes returns all strokes of at most so many bytes.
func shortStrokes(most int) []string {
	strokes := []string{"F", "B"}
	for i := 0; i < len(strokes); i++ {
		if len(strokes[i]) < most {
			strokes = append(strokes, strokes[i]+"F", strokes[i]+"B")
		}
	}
	return strokes
}

// someStrokes returns all short strokes, and longer ones, among them those of one kind and those that repeat a shorter one.
func someStrokes() []string {
	strokes := append(shortStrokes(5),
		"FFFFFFFFFFFF", "BBBBBBBBBBBB", "FFFFFFFFFFFB", "FBBBBBBBBBBB", "BBBBBBFBBBBB", "FFFFFFBBBBBB", "FBFBFBFBFBFB", "FFBFFBFFBFFB", "FBBFFBFBBFFB",
		"FFFFFFF", "BBBBBBB", "FFBBFBF", "FFFBBBB", "BBBBBBBBBBF", "FBFBFBFB", "FFBBFFBB", "FBBFBB")
	source := rand.New(rand.NewSource(6))
	for range 60 {
		stroke := make([]byte, 6+source.Intn(7))
		for i := range stroke {
			stroke[i] = "FB"[source.Intn(2)]
		}
		strokes = append(strokes, string(stroke))
	}
	return strokes
}

// noStrokes returns texts that are no strokes.
func noStrokes() []string {
	return []string{
		"", " ", "f", "b", "fb", "FX", "XF", "FXB", "FB ", " FB", "F B", "FB\n", "F\x00B", "\xff", "F\xffB", "Ｆ", "ÄB", "0", "-",
		strings.Repeat("F", 13), strings.Repeat("B", 13), strings.Repeat("FB", 7), strings.Repeat("FB", 5000), strings.Repeat("F", 11) + "f",
	}
}

// oneKind returns all strokes of one kind of bytes.
func oneKind() []string {
	var strokes []string
	for n := 1; n <= 12; n++ {
		strokes = append(strokes, strings.Repeat("F", n), strings.Repeat("B", n))
	}
	return strokes
}

// noStakes returns numbers out of the range of stakes.
func noStakes() []int64 {
	return []int64{math.MinInt64, -5, -1, 0, 1, 2, 61, 62, 1000, math.MaxInt64 - 1, math.MaxInt64}
}

// noFloats returns numbers out of the range of floats.
func noFloats() []int64 {
	return []int64{math.MinInt64, -1, 0, 13, 14, 1000, math.MaxInt64}
}

// worked returns how the weaver lies in so many rounds, one text for each, by working the stroke again and again.
func worked(stroke string, stakes, rounds int64) []string {
	way := strings.Repeat(stroke, int(stakes*rounds))
	var texts []string
	for r := range rounds {
		texts = append(texts, way[r*stakes:(r+1)*stakes])
	}
	return texts
}

// columnOf returns how the weaver lies at a stake, one byte for each round.
func columnOf(rounds []string, stake int64) string {
	var column []byte
	for _, round := range rounds {
		column = append(column, round[stake])
	}
	return string(column)
}

// runIn returns the length of the longest run of equal bytes, from the start to the end of a text.
func runIn(text string) int64 {
	n := int64(1)
	for strings.Contains(text, strings.Repeat("F", int(n))) || strings.Contains(text, strings.Repeat("B", int(n))) {
		n++
	}
	return n - 1
}

func hasBoth(text string) bool { return strings.Contains(text, "F") && strings.Contains(text, "B") }

// looseIn returns the stakes at which all rounds are alike.
func looseIn(rounds []string, stakes int64) []int64 {
	var loose []int64
	for s := range stakes {
		if !hasBoth(columnOf(rounds, s)) {
			loose = append(loose, s)
		}
	}
	return loose
}

// soundBy reports whether a weave is sound, looking at many rounds.
func soundBy(stroke string, stakes, float int64) bool {
	return hasBoth(stroke) && runIn(strings.Repeat(stroke, 3)) <= float && len(looseIn(worked(stroke, stakes, 30), stakes)) == 0
}

func TestWeaveLimits(t *testing.T) {
	got := []int64{impl.MaxStroke, impl.MaxStakes, impl.MaxRoundN}
	if want := []int64{12, 60, 100}; !slices.Equal(got, want) {
		t.Errorf("the limits are %v, want %v", got, want)
	}
}

func TestValidStroke(t *testing.T) {
	for _, stroke := range append(shortStrokes(12), someStrokes()...) {
		if !impl.ValidStroke(stroke) {
			t.Errorf("%q is a stroke", stroke)
		}
	}
	for _, text := range noStrokes() {
		if impl.ValidStroke(text) {
			t.Errorf("%q is no stroke", text)
		}
	}
	for b := range 256 {
		if got := impl.ValidStroke(string([]byte{byte(b)})); got != (b == 'F' || b == 'B') {
			t.Errorf("ValidStroke of the byte %d = %v", b, got)
		}
		if got := impl.ValidStroke(string([]byte{'F', byte(b), 'B'})); got != (b == 'F' || b == 'B') {
			t.Errorf("ValidStroke with the byte %d between others = %v", b, got)
		}
	}
}

// TestPromise6 checks that the rounds are the stroke, worked again and again, and that just the stakes with one side in all rounds are loose.
func TestPromise6(t *testing.T) {
	for _, stroke := range someStrokes() {
		for stakes := int64(3); stakes <= impl.MaxStakes; stakes++ {
			rounds := worked(stroke, stakes, impl.MaxRoundN+1)
			for r, want := range rounds {
				if got, code := impl.RoundOf(stroke, stakes, int64(r)); got != want || code != impl.OK {
					t.Fatalf("RoundOf(%q, %d, %d) = %q, %d, want %q", stroke, stakes, r, got, code, want)
				}
			}
			want := looseIn(rounds, stakes)
			if got, code := impl.LooseStakes(stroke, stakes); !slices.Equal(got, want) || code != impl.OK {
				t.Fatalf("LooseStakes(%q, %d) = %v, %d, want %v", stroke, stakes, got, code, want)
			}
		}
	}
}

func TestRoundOfByHand(t *testing.T) {
	cases := []struct {
		stroke        string
		stakes, round int64
		want          string
	}{
		{"FB", 5, 0, "FBFBF"}, {"FB", 5, 1, "BFBFB"}, {"FB", 5, 2, "FBFBF"}, {"FB", 6, 1, "FBFBFB"}, {"FFB", 4, 0, "FFBF"}, {"FFB", 4, 1, "FBFF"}, {"FFB", 4, 2, "BFFB"},
		{"F", 3, 100, "FFF"}, {"B", 3, 0, "BBB"}, {"FFFFFFFFFFFB", 3, 3, "FFB"}, {"FFFFFFFFFFFB", 3, 100, "FFF"}, {"FFFFFFFFFFFB", 3, 99, "FFB"},
		{"FB", 3, 99, "BFB"}, {"FB", 3, 100, "FBF"}, {"FFB", 60, 100, strings.Repeat("FFB", 20)},
	}
	for _, c := range cases {
		if got, code := impl.RoundOf(c.stroke, c.stakes, c.round); got != c.want || code != impl.OK {
			t.Errorf("RoundOf(%q, %d, %d) = %q, %d, want %q", c.stroke, c.stakes, c.round, got, code, c.want)
		}
	}
}

func TestRoundOfErrors(t *testing.T) {
	rounds := []int64{math.MinInt64, -1, 101, 102, math.MaxInt64}
	for _, stakes := range noStakes() {
		for _, round := range append([]int64{0, 1, 100}, rounds...) {
			if got, code := impl.RoundOf("FB", stakes, round); got != "" || code != impl.ErrRange {
				t.Errorf("RoundOf on %d stakes, round %d = %q, %d", stakes, round, got, code)
			}
		}
	}
	for _, round := range rounds {
		for _, stroke := range []string{"FB", "F", "BBBBBBBBBBBB"} {
			if got, code := impl.RoundOf(stroke, 5, round); got != "" || code != impl.ErrRange {
				t.Errorf("RoundOf(%q, 5, %d) = %q, %d", stroke, round, got, code)
			}
		}
	}
	for _, text := range noStrokes() {
		for _, round := range append([]int64{0, 1, 100}, rounds...) {
			for _, stakes := range append([]int64{3, 5, 60}, noStakes()...) {
				if got, code := impl.RoundOf(text, stakes, round); got != "" || code != impl.ErrInvalid {
					t.Errorf("RoundOf(%q, %d, %d) = %q, %d", text, stakes, round, got, code)
				}
			}
		}
	}
}

func TestLongestFloat(t *testing.T) {
	for _, stroke := range shortStrokes(12) {
		want, wantCode := runIn(strings.Repeat(stroke, 3)), int64(impl.OK)
		if !hasBoth(stroke) {
			want, wantCode = 0, impl.ErrState
		}
		if got, code := impl.LongestFloat(stroke); got != want || code != wantCode {
			t.Fatalf("LongestFloat(%q) = %d, %d, want %d, %d", stroke, got, code, want, wantCode)
		}
	}
}

func TestLongestFloatByHand(t *testing.T) {
	cases := map[string]int64{
		"FB": 1, "BF": 1, "FFB": 2, "FBF": 2, "BFF": 2, "BBFB": 3, "FBBF": 2, "FBBBF": 3, "FFBBFF": 4, "FFFFFFFFFFFB": 11, "FFFFFBFFFFFF": 11,
		"FBFBFBFBFBFB": 1, "BFFFFFFFFFFB": 10, "FFFBBBBFF": 5,
	}
	for stroke, want := range cases {
		if got, code := impl.LongestFloat(stroke); got != want || code != impl.OK {
			t.Errorf("LongestFloat(%q) = %d, %d, want %d", stroke, got, code, want)
		}
	}
	for _, stroke := range oneKind() {
		if got, code := impl.LongestFloat(stroke); got != 0 || code != impl.ErrState {
			t.Errorf("LongestFloat(%q) = %d, %d", stroke, got, code)
		}
	}
	for _, text := range noStrokes() {
		if got, code := impl.LongestFloat(text); got != 0 || code != impl.ErrInvalid {
			t.Errorf("LongestFloat(%q) = %d, %d", text, got, code)
		}
	}
}

// TestBeginsAgain follows the weaver byte by byte until a round begins with the first one again.
func TestBeginsAgain(t *testing.T) {
	for _, stroke := range someStrokes() {
		for stakes := int64(3); stakes <= impl.MaxStakes; stakes++ {
			var want int64
			for at, begun := 0, false; at != 0 || !begun; want++ {
				begun = true
				for range stakes {
					at++
					if at == len(stroke) {
						at = 0
					}
				}
			}
			if got, code := impl.BeginsAgain(stroke, stakes); got != want || code != impl.OK {
				t.Fatalf("BeginsAgain(%q, %d) = %d, %d, want %d", stroke, stakes, got, code, want)
			}
		}
	}
}

func TestBeginsAgainByHand(t *testing.T) {
	cases := []struct {
		stroke       string
		stakes, want int64
	}{
		{"FB", 5, 2}, {"FB", 6, 1}, {"FFB", 5, 3}, {"FFB", 6, 1}, {"FFBB", 6, 2}, {"FFFFFFBBBBBB", 8, 3}, {"FFFFFFBBBBBB", 5, 12}, {"FFFFFFBBBBBB", 60, 1}, {"F", 3, 1}, {"FB", 60, 1},
		// The same byte of the stroke, not only an equal one: a stroke of one kind or one that repeats a shorter one takes as long as others.
		{"FF", 3, 2}, {"BBBB", 3, 4}, {"BBBB", 6, 2}, {"FFFFFFFFFFFF", 7, 12}, {"FBFB", 5, 4}, {"FBFB", 6, 2}, {"FBFB", 8, 1},
	}
	for _, c := range cases {
		if got, code := impl.BeginsAgain(c.stroke, c.stakes); got != c.want || code != impl.OK {
			t.Errorf("BeginsAgain(%q, %d) = %d, %d, want %d", c.stroke, c.stakes, got, code, c.want)
		}
	}
}

func TestLooseStakesByHand(t *testing.T) {
	cases := []struct {
		stroke string
		stakes int64
		want   []int64
	}{
		{"FB", 5, nil}, {"FB", 6, []int64{0, 1, 2, 3, 4, 5}}, {"FB", 3, nil}, {"FFB", 6, []int64{0, 1, 2, 3, 4, 5}}, {"FFB", 5, nil},
		// Of six bytes, those three apart meet the same stake: F with F, B with B, F with B.
		{"FBFFBB", 3, []int64{0, 1}}, {"FBFFBB", 9, []int64{0, 1, 3, 4, 6, 7}}, {"FBFFBB", 4, nil}, {"FFBF", 6, []int64{1, 3, 5}}, {"FFBB", 6, nil}, {"FFBF", 4, []int64{0, 1, 2, 3}},
		{"FFFB", 6, []int64{0, 2, 4}}, {"BFFF", 6, []int64{1, 3, 5}},
	}
	for _, c := range cases {
		if got, code := impl.LooseStakes(c.stroke, c.stakes); !slices.Equal(got, c.want) || code != impl.OK {
			t.Errorf("LooseStakes(%q, %d) = %v, %d, want %v", c.stroke, c.stakes, got, code, c.want)
		}
	}
	for _, stroke := range oneKind() {
		for stakes := int64(3); stakes <= impl.MaxStakes; stakes++ {
			if got, code := impl.LooseStakes(stroke, stakes); int64(len(got)) != stakes || got[0] != 0 || got[stakes-1] != stakes-1 || code != impl.OK {
				t.Errorf("LooseStakes(%q, %d) = %v, %d", stroke, stakes, got, code)
			}
		}
	}
}

func TestLongestStack(t *testing.T) {
	for _, stroke := range someStrokes() {
		for stakes := int64(3); stakes <= impl.MaxStakes; stakes++ {
			rounds := worked(stroke, stakes, 40)
			var want, wantCode int64
			for s := range stakes {
				want = max(want, runIn(columnOf(rounds, s)))
			}
			if len(looseIn(rounds, stakes)) > 0 {
				want, wantCode = 0, impl.ErrLoose
			}
			if got, code := impl.LongestStack(stroke, stakes); got != want || code != wantCode {
				t.Fatalf("LongestStack(%q, %d) = %d, %d, want %d, %d", stroke, stakes, got, code, want, wantCode)
			}
		}
	}
}

func TestLongestStackByHand(t *testing.T) {
	cases := []struct {
		stroke             string
		stakes, want, code int64
	}{
		{"FB", 5, 1, impl.OK}, {"FB", 6, 0, impl.ErrLoose}, {"FFB", 4, 2, impl.OK}, {"FFB", 5, 2, impl.OK}, {"FFFFFFFFFFFB", 5, 11, impl.OK}, {"FFFFFFFFFFFB", 13, 11, impl.OK},
		{"FFFFFFBBBBBB", 7, 2, impl.OK}, {"FFFFFFBBBBBB", 13, 6, impl.OK}, {"FFBB", 6, 1, impl.OK}, {"FFBF", 6, 0, impl.ErrLoose}, {"FBFFBB", 3, 0, impl.ErrLoose},
	}
	for _, c := range cases {
		if got, code := impl.LongestStack(c.stroke, c.stakes); got != c.want || code != c.code {
			t.Errorf("LongestStack(%q, %d) = %d, %d, want %d, %d", c.stroke, c.stakes, got, code, c.want, c.code)
		}
	}
	for _, stroke := range oneKind() {
		for _, stakes := range []int64{3, 4, 5, 12, 59, 60} {
			if got, code := impl.LongestStack(stroke, stakes); got != 0 || code != impl.ErrLoose {
				t.Errorf("LongestStack(%q, %d) = %d, %d", stroke, stakes, got, code)
			}
		}
	}
}

// TestWeaveErrors checks the functions of a stroke and stakes alone.
func TestWeaveErrors(t *testing.T) {
	functions := map[string]func(string, int64) (any, int64){
		"BeginsAgain": func(stroke string, stakes int64) (any, int64) {
			n, code := impl.BeginsAgain(stroke, stakes)
			return n != 0, code
		},
		"LooseStakes": func(stroke string, stakes int64) (any, int64) {
			list, code := impl.LooseStakes(stroke, stakes)
			return len(list) != 0, code
		},
		"LongestStack": func(stroke string, stakes int64) (any, int64) {
			n, code := impl.LongestStack(stroke, stakes)
			return n != 0, code
		},
	}
	for name, function := range functions {
		for _, stakes := range noStakes() {
			for _, stroke := range []string{"FB", "F", "BBBBBBBBBBBB", "FFB"} {
				if told, code := function(stroke, stakes); told != false || code != impl.ErrRange {
					t.Errorf("%s(%q, %d): %v, %d", name, stroke, stakes, told, code)
				}
			}
			for _, text := range noStrokes() {
				if told, code := function(text, stakes); told != false || code != impl.ErrInvalid {
					t.Errorf("%s(%q, %d): %v, %d", name, text, stakes, told, code)
				}
			}
		}
		for _, text := range noStrokes() {
			for _, stakes := range []int64{3, 5, 60} {
				if told, code := function(text, stakes); told != false || code != impl.ErrInvalid {
					t.Errorf("%s(%q, %d): %v, %d", name, text, stakes, told, code)
				}
			}
		}
	}
}

// TestSoundness compares all functions that tell which weaves are sound with a look at many rounds.
func TestSoundness(t *testing.T) {
	for i, stroke := range someStrokes() {
		for float := int64(1); float <= impl.MaxStroke; float++ {
			if float > 4 && (int64(i)+float)%6 > 0 {
				continue
			}
			var sound []int64
			for stakes := int64(3); stakes <= impl.MaxStakes; stakes++ {
				want := soundBy(stroke, stakes, float)
				if want {
					sound = append(sound, stakes)
				}
				if got, code := impl.IsSound(stroke, stakes, float); got != want || code != impl.OK {
					t.Fatalf("IsSound(%q, %d, %d) = %v, %d, want %v", stroke, stakes, float, got, code, want)
				}
			}
			checkSoundStakes(t, stroke, float, sound)
		}
	}
}

// checkSoundStakes compares SoundStakes and StakesToAdd with all numbers of stakes with which a stroke is sound.
func checkSoundStakes(t *testing.T, stroke string, float int64, sound []int64) {
	t.Helper()
	for _, stakes := range []int64{3, 4, 5, 6, 11, 12, 24, 30, 57, 58, 59, 60} {
		var want []int64
		var add, addCode int64 = 0, impl.ErrNotFound
		for _, n := range sound {
			if n <= stakes {
				want = append(want, n)
			}
			if n >= stakes && addCode != impl.OK {
				add, addCode = n-stakes, impl.OK
			}
		}
		if got, code := impl.SoundStakes(stroke, float, stakes); !slices.Equal(got, want) || code != impl.OK {
			t.Fatalf("SoundStakes(%q, %d, %d) = %v, %d, want %v", stroke, float, stakes, got, code, want)
		}
		if got, code := impl.StakesToAdd(stroke, stakes, float); got != add || code != addCode {
			t.Fatalf("StakesToAdd(%q, %d, %d) = %d, %d, want %d, %d", stroke, stakes, float, got, code, add, addCode)
		}
	}
}

func TestStakesToAddByHand(t *testing.T) {
	cases := []struct {
		stroke                    string
		stakes, float, want, code int64
	}{
		{"FB", 6, 1, 1, impl.OK}, {"FB", 5, 1, 0, impl.OK}, {"FB", 58, 1, 1, impl.OK}, {"FB", 59, 12, 0, impl.OK}, {"FB", 60, 1, 0, impl.ErrNotFound},
		{"FFB", 6, 2, 1, impl.OK}, {"FFB", 7, 2, 0, impl.OK}, {"FFB", 6, 1, 0, impl.ErrNotFound}, {"FFB", 60, 2, 0, impl.ErrNotFound}, {"FFB", 60, 1, 0, impl.ErrNotFound},
		{"FFFFFFFFFFFB", 6, 11, 1, impl.OK}, {"FFFFFFFFFFFB", 8, 11, 3, impl.OK}, {"FFFFFFFFFFFB", 8, 10, 0, impl.ErrNotFound}, {"FFFFFFFFFFFB", 8, 12, 3, impl.OK}, {"FFFFFFFFFFFB", 59, 11, 0, impl.OK},
		{"FBF", 6, 1, 0, impl.ErrNotFound}, {"FBF", 6, 2, 1, impl.OK},
	}
	for _, c := range cases {
		if got, code := impl.StakesToAdd(c.stroke, c.stakes, c.float); got != c.want || code != c.code {
			t.Errorf("StakesToAdd(%q, %d, %d) = %d, %d, want %d, %d", c.stroke, c.stakes, c.float, got, code, c.want, c.code)
		}
	}
}

// TestOneKindIsNeverSound checks strokes of one kind, with floats that are as long as they are, too.
func TestOneKindIsNeverSound(t *testing.T) {
	for _, stroke := range oneKind() {
		for _, float := range []int64{1, int64(len(stroke)), 12} {
			for stakes := int64(3); stakes <= impl.MaxStakes; stakes++ {
				if got, code := impl.IsSound(stroke, stakes, float); got || code != impl.OK {
					t.Errorf("IsSound(%q, %d, %d) = %v, %d", stroke, stakes, float, got, code)
				}
				if got, code := impl.StakesToAdd(stroke, stakes, float); got != 0 || code != impl.ErrNotFound {
					t.Errorf("StakesToAdd(%q, %d, %d) = %d, %d", stroke, stakes, float, got, code)
				}
				if got, code := impl.SoundStakes(stroke, float, stakes); len(got) != 0 || code != impl.OK {
					t.Errorf("SoundStakes(%q, %d, %d) = %v, %d", stroke, float, stakes, got, code)
				}
			}
		}
	}
}

func TestSoundnessErrors(t *testing.T) {
	functions := map[string]func(string, int64, int64) (any, int64){
		"IsSound": func(stroke string, stakes, float int64) (any, int64) {
			sound, code := impl.IsSound(stroke, stakes, float)
			return sound, code
		},
		"StakesToAdd": func(stroke string, stakes, float int64) (any, int64) {
			n, code := impl.StakesToAdd(stroke, stakes, float)
			return n != 0, code
		},
		"SoundStakes": func(stroke string, most, float int64) (any, int64) {
			list, code := impl.SoundStakes(stroke, float, most)
			return len(list) != 0, code
		},
	}
	stakes, floats := []int64{3, 6, 60}, []int64{1, 2, 12}
	for name, function := range functions {
		for _, stroke := range []string{"FB", "F", "BBBBBBBBBBBB", "FFB"} {
			for _, n := range noStakes() {
				for _, float := range append(noFloats(), floats...) {
					if told, code := function(stroke, n, float); told != false || code != impl.ErrRange {
						t.Errorf("%s(%q) with %d stakes and the float %d: %v, %d", name, stroke, n, float, told, code)
					}
				}
			}
			for _, float := range noFloats() {
				for _, n := range stakes {
					if told, code := function(stroke, n, float); told != false || code != impl.ErrRange {
						t.Errorf("%s(%q) with %d stakes and the float %d: %v, %d", name, stroke, n, float, told, code)
					}
				}
			}
		}
		for _, text := range noStrokes() {
			for _, n := range append(noStakes(), stakes...) {
				for _, float := range append(noFloats(), floats...) {
					if told, code := function(text, n, float); told != false || code != impl.ErrInvalid {
						t.Errorf("%s(%q) with %d stakes and the float %d: %v, %d", name, text, n, float, told, code)
					}
				}
			}
		}
	}
}

func TestSoundStakesByHand(t *testing.T) {
	cases := []struct {
		stroke      string
		float, most int64
		want        []int64
	}{
		{"FB", 1, 9, []int64{3, 5, 7, 9}}, {"FB", 1, 10, []int64{3, 5, 7, 9}}, {"FB", 12, 3, []int64{3}}, {"FFB", 2, 8, []int64{4, 5, 7, 8}}, {"FFB", 1, 60, nil}, {"FFB", 2, 3, nil},
		{"FFFFFFFFFFFB", 11, 20, []int64{5, 7, 11, 13, 17, 19}}, {"FFFFFFBBBBBB", 6, 13, []int64{3, 4, 5, 6, 7, 8, 9, 10, 11, 13}}, {"FFFFFFBBBBBB", 5, 60, nil}, {"FBF", 1, 8, nil}, {"FBF", 2, 8, []int64{4, 5, 7, 8}},
	}
	for _, c := range cases {
		if got, code := impl.SoundStakes(c.stroke, c.float, c.most); !slices.Equal(got, c.want) || code != impl.OK {
			t.Errorf("SoundStakes(%q, %d, %d) = %v, %d, want %v", c.stroke, c.float, c.most, got, code, c.want)
		}
	}
	if got, code := impl.SoundStakes("FB", 1, 60); len(got) != 29 || got[28] != 59 || code != impl.OK {
		t.Errorf("SoundStakes of the most = %v, %d", got, code)
	}
}

func TestOtherSide(t *testing.T) {
	cases := map[string]string{"FFB": "BBF", "F": "B", "B": "F", "FB": "BF", "BBBBBBBBBBBB": "FFFFFFFFFFFF", "FBBFFFBBBBFB": "BFFBBBFFFFBF"}
	for stroke, want := range cases {
		if got, code := impl.OtherSide(stroke); got != want || code != impl.OK {
			t.Errorf("OtherSide(%q) = %q, %d, want %q", stroke, got, code, want)
		}
	}
	for _, stroke := range shortStrokes(12) {
		other, code := impl.OtherSide(stroke)
		if code != impl.OK || len(other) != len(stroke) {
			t.Fatalf("OtherSide(%q) = %q, %d", stroke, other, code)
		}
		for i := range len(stroke) {
			if other[i] == stroke[i] || !impl.ValidStroke(other) {
				t.Fatalf("OtherSide(%q) = %q", stroke, other)
			}
		}
	}
	for _, text := range noStrokes() {
		if got, code := impl.OtherSide(text); got != "" || code != impl.ErrInvalid {
			t.Errorf("OtherSide(%q) = %q, %d", text, got, code)
		}
	}
}
