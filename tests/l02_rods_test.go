package tests

import (
	"math"
	"math/big"
	"math/rand"
	"slices"
	"strings"
	"testing"

	"loop.example/g01064/impl"
)

// someRods returns valid rods of all kinds, among them the longest and thickest and those that do not get thinner.
func someRods() []impl.Rod {
	rods := []impl.Rod{
		{Length: 100, Butt: 1, Tip: 1}, {Length: 3000, Butt: 300, Tip: 300}, {Length: 3000, Butt: 300, Tip: 1}, {Length: 100, Butt: 300, Tip: 1},
		{Length: 1000, Butt: 80, Tip: 30}, {Length: 101, Butt: 2, Tip: 1}, {Length: 2999, Butt: 299, Tip: 298}, {Length: 997, Butt: 90, Tip: 7},
	}
	source := rand.New(rand.NewSource(2))
	for range 40 {
		butt := 1 + source.Int63n(300)
		rods = append(rods, impl.Rod{Length: 100 + source.Int63n(2901), Butt: butt, Tip: 1 + source.Int63n(butt)})
	}
	return rods
}

// noRods returns rods each of which breaks one rule.
func noRods() []impl.Rod {
	return []impl.Rod{
		{}, {Length: 99, Butt: 80, Tip: 30}, {Length: 3001, Butt: 80, Tip: 30}, {Length: 0, Butt: 80, Tip: 30}, {Length: -1000, Butt: 80, Tip: 30},
		{Length: 1000, Butt: 0, Tip: 0}, {Length: 1000, Butt: 301, Tip: 30}, {Length: 1000, Butt: -80, Tip: -90},
		{Length: 1000, Butt: 80, Tip: 0}, {Length: 1000, Butt: 80, Tip: 81}, {Length: 1000, Butt: 80, Tip: -1},
		{Length: math.MaxInt64, Butt: math.MaxInt64, Tip: math.MaxInt64}, {Length: math.MinInt64, Butt: math.MinInt64, Tip: math.MinInt64},
	}
}

// badLimits returns lists that are no limits of grades.
func badLimits() [][]int64 {
	return [][]int64{
		{99}, {3001}, {0}, {-500}, {500, 500}, {500, 400}, {100, 200, 200}, {99, 200}, {200, 3001}, {3000, 3000},
		{math.MinInt64}, {math.MaxInt64}, {math.MaxInt64, math.MinInt64}, {100, 200, 300, 400, 500, 600, 700, 800, 900},
	}
}

// thickness returns the thickness as the document tells it: Butt - (Butt - Tip) * at / Length.
func thickness(r impl.Rod, at int64) *big.Rat {
	fall := new(big.Rat).Mul(big.NewRat(r.Butt-r.Tip, r.Length), big.NewRat(at, 1))
	return fall.Sub(big.NewRat(r.Butt, 1), fall)
}

func TestRodLimits(t *testing.T) {
	got := []int64{impl.MinRod, impl.MaxRod, impl.MaxThick, impl.MaxRods, impl.MaxGrade}
	if want := []int64{100, 3000, 300, 20, 8}; !slices.Equal(got, want) {
		t.Errorf("the limits are %v, want %v", got, want)
	}
}

func TestValidRods(t *testing.T) {
	for _, r := range someRods() {
		if !impl.ValidRods([]impl.Rod{r}) {
			t.Errorf("%v is valid", r)
		}
	}
	good := impl.Rod{Length: 1000, Butt: 80, Tip: 30}
	for _, r := range noRods() {
		for _, list := range [][]impl.Rod{{r}, {r, good}, {good, r}, {good, r, good}} {
			if impl.ValidRods(list) {
				t.Errorf("%v is not valid", list)
			}
		}
	}
	if !impl.ValidRods(nil) || !impl.ValidRods([]impl.Rod{}) || !impl.ValidRods(slices.Repeat([]impl.Rod{good}, 20)) {
		t.Error("lists of 0 and of 20 rods are valid")
	}
	if impl.ValidRods(slices.Repeat([]impl.Rod{good}, 21)) || impl.ValidRods(slices.Repeat([]impl.Rod{good}, 500)) {
		t.Error("lists of more than 20 rods are not valid")
	}
}

func TestThickAt(t *testing.T) {
	for _, r := range someRods() {
		for at := int64(0); at <= r.Length; at++ {
			want := thickness(r, at)
			got, code := impl.ThickAt(r, at)
			if code != impl.OK || got != (impl.Fraction{Num: want.Num().Int64(), Den: want.Denom().Int64()}) {
				t.Fatalf("ThickAt(%v, %d) = %v, %d, want %v", r, at, got, code, want)
			}
		}
		for _, at := range []int64{-1, r.Length + 1, math.MinInt64, math.MaxInt64} {
			if got, code := impl.ThickAt(r, at); got != (impl.Fraction{}) || code != impl.ErrRange {
				t.Errorf("ThickAt(%v, %d) = %v, %d", r, at, got, code)
			}
		}
	}
	for _, r := range noRods() {
		for _, at := range []int64{0, 50, -1, math.MaxInt64} {
			if got, code := impl.ThickAt(r, at); got != (impl.Fraction{}) || code != impl.ErrInvalid {
				t.Errorf("ThickAt(%v, %d) = %v, %d", r, at, got, code)
			}
		}
	}
}

func TestThickAtOfTheExample(t *testing.T) {
	r, _ := impl.ReadRod("1000 mm 80-30")
	for at, want := range map[int64]impl.Fraction{0: {Num: 80, Den: 1}, 500: {Num: 55, Den: 1}, 510: {Num: 109, Den: 2}, 1000: {Num: 30, Den: 1}} {
		if got, code := impl.ThickAt(r, at); got != want || code != impl.OK {
			t.Errorf("ThickAt(%v, %d) = %v, %d, want %v", r, at, got, code, want)
		}
	}
}

func TestLengthWith(t *testing.T) {
	for _, r := range someRods() {
		for thick := int64(1); thick <= impl.MaxThick; thick++ {
			got, code := impl.LengthWith(r, thick)
			if thick > r.Butt {
				if got != 0 || code != impl.ErrNotFound {
					t.Fatalf("LengthWith(%v, %d) = %d, %d", r, thick, got, code)
				}
				continue
			}
			if code != impl.OK || got < 0 || got > r.Length {
				t.Fatalf("LengthWith(%v, %d) = %d, %d", r, thick, got, code)
			}
			if thickness(r, got).Cmp(big.NewRat(thick, 1)) < 0 {
				t.Fatalf("%v is not %d thick at %d", r, thick, got)
			}
			if got < r.Length && thickness(r, got+1).Cmp(big.NewRat(thick, 1)) >= 0 {
				t.Fatalf("%v is %d thick beyond %d as well", r, thick, got)
			}
		}
		for _, thick := range []int64{0, -1, 301, math.MinInt64, math.MaxInt64} {
			if got, code := impl.LengthWith(r, thick); got != 0 || code != impl.ErrRange {
				t.Errorf("LengthWith(%v, %d) = %d, %d", r, thick, got, code)
			}
		}
	}
	for _, r := range noRods() {
		for _, thick := range []int64{1, 300, 0, 301} {
			if got, code := impl.LengthWith(r, thick); got != 0 || code != impl.ErrInvalid {
				t.Errorf("LengthWith(%v, %d) = %d, %d", r, thick, got, code)
			}
		}
	}
}

func TestGradeOf(t *testing.T) {
	cases := []struct {
		length int64
		limits []int64
		want   int64
	}{
		{1000, nil, 0}, {1000, []int64{}, 0}, {1000, []int64{999}, 1}, {1000, []int64{1000}, 1}, {1000, []int64{1001}, 0},
		{1000, []int64{500, 1000, 1500}, 2}, {499, []int64{500, 1000, 1500}, 0}, {1500, []int64{500, 1000, 1500}, 3},
		{100, []int64{100, 3000}, 1}, {3000, []int64{100, 3000}, 2}, {1000, []int64{100, 101}, 2},
		{700, []int64{100, 200, 300, 400, 500, 600, 700, 800}, 7}, {3000, []int64{100, 200, 300, 400, 500, 600, 700, 800}, 8},
	}
	for _, c := range cases {
		r := impl.Rod{Length: c.length, Butt: 80, Tip: 30}
		if got, code := impl.GradeOf(r, c.limits); got != c.want || code != impl.OK {
			t.Errorf("GradeOf(%v, %v) = %d, %d, want %d", r, c.limits, got, code, c.want)
		}
	}
	good := impl.Rod{Length: 1000, Butt: 80, Tip: 30}
	for _, limits := range badLimits() {
		if got, code := impl.GradeOf(good, limits); got != 0 || code != impl.ErrRange {
			t.Errorf("GradeOf with %v = %d, %d", limits, got, code)
		}
	}
	for _, r := range noRods() {
		for _, limits := range append(badLimits(), nil, []int64{500}) {
			if got, code := impl.GradeOf(r, limits); got != 0 || code != impl.ErrInvalid {
				t.Errorf("GradeOf(%v, %v) = %d, %d", r, limits, got, code)
			}
		}
	}
}

func TestCountGrades(t *testing.T) {
	a := impl.Rod{Length: 400, Butt: 50, Tip: 20}
	b := impl.Rod{Length: 1000, Butt: 80, Tip: 30}
	c := impl.Rod{Length: 3000, Butt: 90, Tip: 90}
	cases := []struct {
		list   []impl.Rod
		limits []int64
		want   []int64
	}{
		{nil, nil, []int64{0}}, {nil, []int64{500, 600}, []int64{0, 0, 0}}, {[]impl.Rod{a, b, c}, nil, []int64{3}},
		{[]impl.Rod{b, a}, []int64{500, 1000}, []int64{1, 0, 1}}, {[]impl.Rod{a, b, c}, []int64{401, 1001}, []int64{1, 1, 1}},
		{[]impl.Rod{c, c, c}, []int64{400, 3000}, []int64{0, 0, 3}}, {[]impl.Rod{a, b, c}, []int64{400, 1000, 3000}, []int64{0, 1, 1, 1}},
		{slices.Repeat([]impl.Rod{a, b}, 10), []int64{100, 200, 300, 400, 500, 600, 700, 800}, []int64{0, 0, 0, 0, 10, 0, 0, 0, 10}},
	}
	for _, x := range cases {
		if got, code := impl.CountGrades(x.list, x.limits); !slices.Equal(got, x.want) || code != impl.OK {
			t.Errorf("CountGrades(%v, %v) = %v, %d, want %v", x.list, x.limits, got, code, x.want)
		}
	}
	for _, limits := range badLimits() {
		for _, list := range [][]impl.Rod{nil, {a, b}} {
			if got, code := impl.CountGrades(list, limits); len(got) != 0 || code != impl.ErrRange {
				t.Errorf("CountGrades(%v, %v) = %v, %d", list, limits, got, code)
			}
		}
	}
	for _, list := range noLists() {
		for _, limits := range append(badLimits(), nil) {
			if got, code := impl.CountGrades(list, limits); len(got) != 0 || code != impl.ErrInvalid {
				t.Errorf("CountGrades(%v, %v) = %v, %d", list, limits, got, code)
			}
		}
	}
}

// noLists returns lists that are not valid: with one rod that is not, in front, behind or alone, and too long ones.
func noLists() [][]impl.Rod {
	good := impl.Rod{Length: 1000, Butt: 80, Tip: 30}
	lists := [][]impl.Rod{slices.Repeat([]impl.Rod{good}, 21)}
	for _, r := range noRods() {
		lists = append(lists, []impl.Rod{r}, []impl.Rod{r, good, good}, []impl.Rod{good, good, r})
	}
	return lists
}

// drawnLists returns valid lists of up to 20 rods, drawn from few numbers so that many rods are equally long and equally alike.
func drawnLists() [][]impl.Rod {
	source := rand.New(rand.NewSource(7))
	lists := [][]impl.Rod{nil}
	for n := range 600 {
		var list []impl.Rod
		for range n % 21 {
			list = append(list, impl.Rod{Length: 500 + 10*source.Int63n(4), Butt: 50 + 10*source.Int63n(4), Tip: 10 + 10*source.Int63n(4)})
		}
		lists = append(lists, list)
	}
	return lists
}

func TestLongestFirst(t *testing.T) {
	for _, list := range drawnLists() {
		var want []int64
		for length := int64(impl.MaxRod); length >= impl.MinRod; length-- {
			for i, r := range list {
				if r.Length == length {
					want = append(want, int64(i))
				}
			}
		}
		if got, code := impl.LongestFirst(list); !slices.Equal(got, want) || code != impl.OK {
			t.Fatalf("LongestFirst(%v) = %v, %d, want %v", list, got, code, want)
		}
	}
	for _, list := range noLists() {
		if got, code := impl.LongestFirst(list); len(got) != 0 || code != impl.ErrInvalid {
			t.Errorf("LongestFirst(%v) = %v, %d", list, got, code)
		}
	}
}

// unlike returns the sum of the differences of two rods.
func unlike(a, b impl.Rod) float64 {
	return math.Abs(float64(a.Length-b.Length)) + math.Abs(float64(a.Butt-b.Butt)) + math.Abs(float64(a.Tip-b.Tip))
}

func TestMostAlikeOfDrawnRods(t *testing.T) {
	for _, list := range drawnLists() {
		if len(list) < 2 {
			continue
		}
		i, k, code := impl.MostAlike(list)
		if code != impl.OK || i < 0 || i >= k || k >= int64(len(list)) {
			t.Fatalf("MostAlike(%v) = %d, %d, %d", list, i, k, code)
		}
		told := unlike(list[i], list[k])
		for a := range list {
			for b := a + 1; b < len(list); b++ {
				before := int64(a) < i || int64(a) == i && int64(b) < k
				if other := unlike(list[a], list[b]); other < told || other == told && before {
					t.Fatalf("MostAlike(%v) = %d, %d, but %d and %d are more alike or come first", list, i, k, a, b)
				}
			}
		}
	}
}

func TestMostAlike(t *testing.T) {
	rod := func(length, butt, tip int64) impl.Rod { return impl.Rod{Length: length, Butt: butt, Tip: tip} }
	cases := []struct {
		name string
		list []impl.Rod
		i, k int64
	}{
		{"two rods as unlike as may be", []impl.Rod{rod(3000, 300, 300), rod(100, 1, 1)}, 0, 1},
		{"all of them equal", []impl.Rod{rod(500, 50, 20), rod(500, 50, 20), rod(500, 50, 20)}, 0, 1},
		{"equal ones behind", []impl.Rod{rod(500, 50, 20), rod(600, 50, 20), rod(600, 50, 20)}, 1, 2},
		{"first by i", []impl.Rod{rod(500, 50, 20), rod(700, 50, 20), rod(701, 50, 20), rod(501, 50, 20)}, 0, 3},
		{"then by k", []impl.Rod{rod(500, 50, 20), rod(900, 50, 20), rod(501, 50, 20), rod(499, 50, 20)}, 0, 2},
		{"only the Butt differs", []impl.Rod{rod(500, 50, 20), rod(500, 60, 20), rod(500, 55, 20)}, 0, 2},
		{"only the Tip differs", []impl.Rod{rod(500, 50, 20), rod(500, 50, 30), rod(500, 50, 26)}, 1, 2},
		{"signs do not cancel", []impl.Rod{rod(500, 60, 20), rod(520, 50, 10), rod(500, 60, 26)}, 0, 2},
		{"lesser numbers first", []impl.Rod{rod(100, 1, 1), rod(900, 90, 9), rod(140, 3, 2), rod(2000, 200, 2)}, 0, 2},
		{"sums of three count, not the greatest of them", []impl.Rod{rod(500, 50, 20), rod(504, 54, 24), rod(509, 54, 24)}, 1, 2},
	}
	for _, c := range cases {
		if i, k, code := impl.MostAlike(c.list); i != c.i || k != c.k || code != impl.OK {
			t.Errorf("%s: MostAlike = %d, %d, %d, want %d, %d", c.name, i, k, code, c.i, c.k)
		}
	}
	twenty := make([]impl.Rod, 20)
	for n := range twenty {
		twenty[n] = rod(100+int64(n*n), 50, 20)
	}
	twenty[19] = twenty[18]
	if i, k, code := impl.MostAlike(twenty); i != 18 || k != 19 || code != impl.OK {
		t.Errorf("the last two of twenty: MostAlike = %d, %d, %d", i, k, code)
	}
	for _, list := range [][]impl.Rod{nil, {}, {rod(500, 50, 20)}} {
		if i, k, code := impl.MostAlike(list); i != 0 || k != 0 || code != impl.ErrNotFound {
			t.Errorf("MostAlike(%v) = %d, %d, %d", list, i, k, code)
		}
	}
	for _, list := range noLists() {
		if i, k, code := impl.MostAlike(list); i != 0 || k != 0 || code != impl.ErrInvalid {
			t.Errorf("MostAlike(%v) = %d, %d, %d", list, i, k, code)
		}
	}
}

func TestRodsBetween(t *testing.T) {
	ends := []int64{100, 499, 500, 501, 509, 510, 520, 530, 531, 3000}
	for _, list := range drawnLists() {
		for _, low := range ends {
			for _, high := range ends {
				var want []int64
				for i, r := range list {
					if r.Length >= low && r.Length <= high {
						want = append(want, int64(i))
					}
				}
				if got, code := impl.RodsBetween(list, low, high); !slices.Equal(got, want) || code != impl.OK {
					t.Fatalf("RodsBetween(%v, %d, %d) = %v, %d, want %v", list, low, high, got, code, want)
				}
			}
		}
	}
	shortest := []impl.Rod{{Length: 3000, Butt: 9, Tip: 9}, {Length: 100, Butt: 9, Tip: 9}}
	for _, bad := range []int64{99, 3001, 0, -1, math.MinInt64, math.MaxInt64} {
		for _, pair := range [][2]int64{{bad, 500}, {500, bad}, {bad, bad}} {
			if got, code := impl.RodsBetween(shortest, pair[0], pair[1]); len(got) != 0 || code != impl.ErrRange {
				t.Errorf("RodsBetween(%v) = %v, %d", pair, got, code)
			}
		}
	}
	for _, list := range noLists() {
		for _, low := range []int64{100, 99} {
			if got, code := impl.RodsBetween(list, low, 3000); len(got) != 0 || code != impl.ErrInvalid {
				t.Errorf("RodsBetween(%v, %d, 3000) = %v, %d", list, low, got, code)
			}
		}
	}
}

func TestCutTip(t *testing.T) {
	for _, r := range someRods() {
		for length := int64(impl.MinRod); length <= r.Length; length++ {
			whole := thickness(r, length)
			tip := new(big.Int).Div(whole.Num(), whole.Denom()).Int64()
			got, code := impl.CutTip(r, length)
			if code != impl.OK || got != (impl.Rod{Length: length, Butt: r.Butt, Tip: max(tip, 1)}) {
				t.Fatalf("CutTip(%v, %d) = %v, %d", r, length, got, code)
			}
			if !impl.ValidRods([]impl.Rod{got}) {
				t.Fatalf("CutTip(%v, %d) = %v is not valid", r, length, got)
			}
		}
		if got, code := impl.CutTip(r, r.Length); got != r || code != impl.OK {
			t.Errorf("CutTip(%v) at its end = %v, %d", r, got, code)
		}
		for _, length := range []int64{99, 0, -1, r.Length + 1, math.MinInt64, math.MaxInt64} {
			if got, code := impl.CutTip(r, length); got != (impl.Rod{}) || code != impl.ErrRange {
				t.Errorf("CutTip(%v, %d) = %v, %d", r, length, got, code)
			}
		}
	}
	for _, r := range noRods() {
		for _, length := range []int64{100, 1000, 99, 3001} {
			if got, code := impl.CutTip(r, length); got != (impl.Rod{}) || code != impl.ErrInvalid {
				t.Errorf("CutTip(%v, %d) = %v, %d", r, length, got, code)
			}
		}
	}
}

func TestRodText(t *testing.T) {
	cases := map[string]impl.Rod{
		"1000 mm 80-30": {Length: 1000, Butt: 80, Tip: 30}, "100 mm 1-1": {Length: 100, Butt: 1, Tip: 1},
		"3000 mm 300-300": {Length: 3000, Butt: 300, Tip: 300}, "250 mm 12-7": {Length: 250, Butt: 12, Tip: 7},
	}
	for text, r := range cases {
		if got := impl.RodText(r); got != text {
			t.Errorf("RodText(%v) = %q, want %q", r, got, text)
		}
		if got, ok := impl.ReadRod(text); got != r || !ok {
			t.Errorf("ReadRod(%q) = %v, %v", text, got, ok)
		}
	}
	for _, r := range someRods() {
		if got, ok := impl.ReadRod(impl.RodText(r)); got != r || !ok {
			t.Errorf("ReadRod(RodText(%v)) = %v, %v", r, got, ok)
		}
	}
	for _, r := range noRods() {
		if got := impl.RodText(r); got != "" {
			t.Errorf("RodText(%v) = %q", r, got)
		}
	}
}

func TestReadRodOfNoRod(t *testing.T) {
	for _, s := range []string{
		"", " ", "mm", " mm ", "-", " mm -", "1000", "1000 mm", "1000 mm ", "1000 mm 80", "1000 mm 80-", "1000 mm -30", " mm 80-30", "mm 80-30",
		"99 mm 80-30", "3001 mm 80-30", "1000 mm 0-0", "1000 mm 301-30", "1000 mm 80-0", "1000 mm 80-81", "0 mm 0-0", "-1000 mm 80-30",
		" 1000 mm 80-30", "1000 mm 80-30 ", "1000  mm 80-30", "1000 mm  80-30", "1000mm 80-30", "1000 mm80-30", "1000 mm 80 -30", "1000 mm 80- 30",
		"1000 mm 80 - 30", "1000 cm 80-30", "1000 MM 80-30", "1000 80-30", "1000\tmm\t80-30", "1000 mm 80-30\n", "1000 mm 80-30-10", "1000 mm 80--30",
		"1000 mm 80/30", "1000 mm 80 30", "01000 mm 80-30", "1000 mm 080-30", "1000 mm 80-030", "+1000 mm 80-30", "1000 mm +80-30", "1000 mm 80-+30",
		"1000 mm mm 80-30", "1000 mm 80-30 mm", "1000 mm 80-30 mm 80-30", "1000 mm 80\u201330", "1000 mm 8e1-30", "1000 mm 80-30x", "x1000 mm 80-30",
		"1000 mm 80-\xff", "10\x0000 mm 80-30", "9223372036854775808 mm 80-30", "1000000000000000000 mm 80-30", strings.Repeat("1000 mm 80-30", 500),
	} {
		if got, ok := impl.ReadRod(s); got != (impl.Rod{}) || ok {
			t.Errorf("ReadRod(%q) = %v, %v", s, got, ok)
		}
	}
}
