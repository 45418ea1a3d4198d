package tests

import (
	"fmt"
	"math"
	"math/big"
	"reflect"
	"slices"
	"strings"
	"testing"

	"loop.example/g01064/impl"
)

// landed names the functions of the chapters that have landed; TestPurity calls each of them with combinations of
// the values that samples has for the types of its parameters.
func landed() map[string]any {
	return map[string]any{
		"CodeName": impl.CodeName, "IsName": impl.IsName, "Decimal": impl.Decimal, "ReadDecimal": impl.ReadDecimal,
		"SplitWords": impl.SplitWords,

		"ValidRods": impl.ValidRods, "ThickAt": impl.ThickAt, "LengthWith": impl.LengthWith, "GradeOf": impl.GradeOf,
		"CountGrades": impl.CountGrades, "LongestFirst": impl.LongestFirst, "MostAlike": impl.MostAlike,
		"RodsBetween": impl.RodsBetween, "CutTip": impl.CutTip, "RodText": impl.RodText, "ReadRod": impl.ReadRod,

		"ValidBeds": impl.ValidBeds, "YieldNow": impl.YieldNow, "YieldOfPlan": impl.YieldOfPlan, "BestCuts": impl.BestCuts,
		"BestRhythm": impl.BestRhythm, "CutFor": impl.CutFor, "AfterYear": impl.AfterYear, "SameBeds": impl.SameBeds,
		"SteadyNeed": impl.SteadyNeed,

		"ValidBatches": impl.ValidBatches, "SameBatches": impl.SameBatches, "InTank": impl.InTank, "SuppleAt": impl.SuppleAt,
		"FirstTooMany": impl.FirstTooMany, "LatestStart": impl.LatestStart, "EarliestPlan": impl.EarliestPlan,
		"SuppleHours": impl.SuppleHours, "BestHour": impl.BestHour,

		"ValidBunches": impl.ValidBunches, "SameBunches": impl.SameBunches, "AreaOf": impl.AreaOf, "RodsIn": impl.RodsIn,
		"GirthFor": impl.GirthFor, "SortBunches": impl.SortBunches, "WeightOfLength": impl.WeightOfLength,
		"FewestBunches": impl.FewestBunches, "FitCart": impl.FitCart, "BunchText": impl.BunchText,

		"ValidStroke": impl.ValidStroke, "RoundOf": impl.RoundOf, "LongestFloat": impl.LongestFloat, "BeginsAgain": impl.BeginsAgain,
		"LooseStakes": impl.LooseStakes, "IsSound": impl.IsSound, "StakesToAdd": impl.StakesToAdd, "LongestStack": impl.LongestStack,
		"OtherSide": impl.OtherSide, "SoundStakes": impl.SoundStakes,

		"ValidBase": impl.ValidBase, "EndsOf": impl.EndsOf, "StakesFrom": impl.StakesFrom, "RingsOf": impl.RingsOf,
		"LengthOfRing": impl.LengthOfRing, "WeaverFor": impl.WeaverFor, "BaseFor": impl.BaseFor, "GapsAt": impl.GapsAt,
		"FirstOpen": impl.FirstOpen, "BaseText": impl.BaseText,

		"ValidShape": impl.ValidShape, "SpacingAt": impl.SpacingAt, "StakesRange": impl.StakesRange, "StakePlan": impl.StakePlan,
		"ChangesOf": impl.ChangesOf, "OneNumber": impl.OneNumber, "WidestLevel": impl.WidestLevel, "Turned": impl.Turned,
		"LevelsBetween": impl.LevelsBetween,

		"ValidTwill": impl.ValidTwill, "SameTwill": impl.SameTwill, "RepeatOf": impl.RepeatOf, "FaceOf": impl.FaceOf,
		"FloatsOf": impl.FloatsOf, "ShareFront": impl.ShareFront, "BackOf": impl.BackOf, "IsPlain": impl.IsPlain,
		"DraftFor": impl.DraftFor, "SameFace": impl.SameFace, "TwillText": impl.TwillText,

		"ValidLaid": impl.ValidLaid, "JoinsOf": impl.JoinsOf, "RoundsLaid": impl.RoundsLaid, "FirstAbove": impl.FirstAbove,
		"OrderRods": impl.OrderRods, "CountAbove": impl.CountAbove, "FewestAbove": impl.FewestAbove,
		"StakesForRods": impl.StakesForRods,

		"ValidBends": impl.ValidBends, "EndOfBend": impl.EndOfBend, "CoversOf": impl.CoversOf, "IsLocked": impl.IsLocked,
		"DrawnOut": impl.DrawnOut, "FirstWord": impl.FirstWord, "SameBorder": impl.SameBorder, "ListWords": impl.ListWords,
		"LockedWords": impl.LockedWords, "RodForBorder": impl.RodForBorder,

		"ValidWord": impl.ValidWord, "RowOf": impl.RowOf, "RowsAgain": impl.RowsAgain, "SpiralOf": impl.SpiralOf,
		"CountColour": impl.CountColour, "WordFor": impl.WordFor, "ShortestWord": impl.ShortestWord, "SameRows": impl.SameRows,
		"StripesWith": impl.StripesWith,
	}
}

func samples() map[reflect.Type][]any {
	numbers := []any{}
	for _, n := range []int64{math.MinInt64, math.MinInt64 + 1, -1000, -1, 0, 1, 2, 3, 4, 8, 9, 10, 12, 13, 25, 39, 40, 41, 60, 61, 99, 100, 101, 200, 201, 300, 301, 500, 501, 999, 1000, 1200, 2000, 2001, 3000, 3001, 5000, 5001, 10000, 10001, 80000, 100000, 100001, 1000000, 1000001, 1 << 62, math.MaxInt64} {
		numbers = append(numbers, n)
	}
	texts := []any{}
	for _, s := range []string{
		"", " ", "   ", "a", "rod-3", "Rod", "a b  c ", "0", "-0", "42", "-42", "007", "999999999999999999", "9223372036854775808", "-9223372036854775808",
		"1000 mm 80-30", "1000 mm 80--30", " mm -", "1000 mm", "99 mm 80-30", "\xff \xfe", "ä ö", "\x00", strings.Repeat("9 ", 2000),
		"F", "B", "FB", "FBF", "FFBB", "fb", "FB ", "FFFFFFFFFFFF", "FFFFFFFFFFFB", "BBBBBBBBBBBBB",
		"b", "f", "bf", "fb", "bbf", "fbfb", "fffb", "bffbbfff", "bbbbbbbb", "fffffffff", "bf ", "bx",
		"ab", "abc", "abab", "z", "aaaaaaaaaaaa", "abcdefghijkl", "abcdefghijklm", "aB", "a?",
	} {
		texts = append(texts, s)
	}
	rods := []any{}
	lists := []any{[]impl.Rod(nil), slices.Repeat([]impl.Rod{{Length: 500, Butt: 50, Tip: 20}}, 20), slices.Repeat([]impl.Rod{{Length: 500, Butt: 50, Tip: 20}}, 21)}
	for _, r := range append(noRods(), someRods()[:12]...) {
		rods = append(rods, r)
		lists = append(lists, []impl.Rod{r}, []impl.Rod{{Length: 1000, Butt: 80, Tip: 30}, r, {Length: 2000, Butt: 90, Tip: 1}, r})
	}
	limits := []any{[]int64(nil), []int64{500}, []int64{100, 3000}, []int64{100, 200, 300, 400, 500, 600, 700, 800}}
	for _, l := range badLimits() {
		limits = append(limits, l)
	}
	for _, cuts := range [][]int64{{0}, {0, 2}, {1, 2, 3}, {0, 11}, {1, 0}, {0, 1, 2, 3, 4, 5, 6, 7, 8, 9, 10, 11}} {
		limits = append(limits, cuts)
	}
	for _, levels := range [][]int64{
		{600}, {600, 700}, {600, 1200}, {600, 2000}, {300, 360, 420}, {24, 30}, {3, 60}, {1, 5000}, {5001}, {600, 1000, 1400, 1000, 600, 650, 700, 800, 900, 1000, 1100, 1200},
		slices.Repeat([]int64{60}, 12), slices.Repeat([]int64{60}, 13),
	} {
		limits = append(limits, levels)
	}
	for _, reaches := range [][]int64{
		{5, 10, 8}, {10, 10, 10}, {200, 200}, {5, 201, 8}, {10, 3, 13, 25, 12}, slices.Repeat([]int64{200}, 7), {10, 10, 3, 13, 25, 10, 1}, slices.Repeat([]int64{10}, 8),
	} {
		limits = append(limits, reaches)
	}
	beds := []any{}
	manyBeds := []any{[]impl.Bed(nil), slices.Repeat([]impl.Bed{bed(1, 10, 30)}, 4), slices.Repeat([]impl.Bed{bed(0, 10, 30)}, 9), someBeds()[:5], someBeds()[:8]}
	for _, b := range append(noBeds(), someBeds()[:14]...) {
		beds = append(beds, b)
		manyBeds = append(manyBeds, []impl.Bed{b}, []impl.Bed{bed(1, 10, 30), b, b})
	}
	batches := []any{
		[]impl.Batch(nil), slices.Repeat([]impl.Batch{batch(0, 10, 5, 4)}, 10), slices.Repeat([]impl.Batch{batch(0, 10, 5, 4)}, 11),
		slices.Repeat([]impl.Batch{batch(5000, 500, 500, 100)}, 2), someBatches()[10:20],
	}
	for _, b := range append(noBatches(), someBatches()[:14]...) {
		batches = append(batches, []impl.Batch{b}, []impl.Batch{batch(0, 10, 5, 4), b, b})
	}
	bunches := []any{}
	manyBunches := []any{[]impl.Bunch(nil), someBunches()[:10], someBunches()[:11], someBunches()[10:40], slices.Repeat([]impl.Bunch{bunch(1200, 400, 900)}, 10), slices.Repeat([]impl.Bunch{bunch(1200, 400, 900)}, 31)}
	for _, x := range append(noBunches(), someBunches()[:14]...) {
		bunches = append(bunches, x)
		manyBunches = append(manyBunches, []impl.Bunch{x}, []impl.Bunch{bunch(1200, 400, 900), x, bunch(900, 300, 700), x})
	}
	bases := []any{}
	for _, b := range append(noBases(), someBases()[:30]...) {
		bases = append(bases, b)
	}
	twills := []any{}
	for _, x := range append(noTwills(), someTwills()...) {
		twills = append(twills, x)
	}
	rows := []any{}
	for _, r := range append(noRows(), someRows()[:30]...) {
		rows = append(rows, r)
	}
	return map[reflect.Type][]any{
		reflect.TypeFor[[]string]():  rows,
		reflect.TypeFor[impl.Base](): bases, reflect.TypeFor[impl.Twill](): twills,
		reflect.TypeFor[impl.Bunch](): bunches, reflect.TypeFor[[]impl.Bunch](): manyBunches,
		reflect.TypeFor[[]impl.Batch](): batches, reflect.TypeFor[impl.Bed](): beds, reflect.TypeFor[[]impl.Bed](): manyBeds,
		reflect.TypeFor[int64](): numbers, reflect.TypeFor[string](): texts, reflect.TypeFor[impl.Rod](): rods,
		reflect.TypeFor[[]impl.Rod](): lists, reflect.TypeFor[[]int64](): limits,
	}
}

// spaced copies an argument; each slice in it gets unused capacity with values in it, which no function may change or tell.
func spaced(v reflect.Value) reflect.Value {
	out := reflect.New(v.Type()).Elem()
	out.Set(v)
	switch v.Kind() {
	case reflect.Struct:
		for i := range v.NumField() {
			out.Field(i).Set(spaced(v.Field(i)))
		}
	case reflect.Slice:
		n := v.Len()
		out.Set(reflect.MakeSlice(v.Type(), n+3, n+3))
		for i := range n {
			out.Index(i).Set(spaced(v.Index(i)))
		}
		for i := n; i < n+3; i++ {
			fill(out.Index(i), 250)
		}
		out.Set(out.Slice(0, n))
	}
	return out
}

// fill stores a number into all parts of a value, and into the unused capacity of its slices.
func fill(v reflect.Value, n int64) {
	switch v.Kind() {
	case reflect.Int64:
		v.SetInt(n)
	case reflect.String:
		v.SetString(fmt.Sprint("text", n))
	case reflect.Struct:
		for i := range v.NumField() {
			fill(v.Field(i), n)
		}
	case reflect.Slice:
		whole := v.Slice(0, v.Cap())
		for i := range whole.Len() {
			fill(whole.Index(i), n)
		}
	}
}

// overwrite fills all slices of results, those inside structs too.
func overwrite(results []reflect.Value) {
	for _, v := range results {
		switch v.Kind() {
		case reflect.Slice:
			fill(v, 777)
		case reflect.Struct:
			for i := range v.NumField() {
				overwrite([]reflect.Value{v.Field(i)})
			}
		}
	}
}

// written tells values with the unused capacity of slices.
func written(values []reflect.Value) string { return inWords(values, true) }

// told tells values; an empty slice and a nil one, which are equivalent, are told alike.
func told(values []reflect.Value) string { return inWords(values, false) }

func inWords(values []reflect.Value, unused bool) string {
	var b strings.Builder
	for k, v := range values {
		if k > 0 {
			b.WriteString(", ")
		}
		tell(&b, v, unused)
	}
	return b.String()
}

func tell(b *strings.Builder, v reflect.Value, unused bool) {
	switch v.Kind() {
	case reflect.Struct:
		b.WriteString("{")
		for i := range v.NumField() {
			tell(b, v.Field(i), unused)
			b.WriteString(" ")
		}
		b.WriteString("}")
	case reflect.Slice:
		whole := v
		if unused {
			whole = v.Slice(0, v.Cap())
		}
		fmt.Fprintf(b, "%d[", v.Len())
		for i := range whole.Len() {
			tell(b, whole.Index(i), unused)
			b.WriteString(" ")
		}
		b.WriteString("]")
	default:
		fmt.Fprintf(b, "%#v", v)
	}
}

// mostCalls is up to how many combinations of arguments a function is called with all of them.
const mostCalls = 40000

// combinations calls visit with choices of one value per list: with each one or, if there are too many, with some that are spread over all of them.
func combinations(lists [][]any, visit func([]reflect.Value)) {
	total := 1
	for _, list := range lists {
		total *= len(list)
	}
	stride := total/mostCalls + 1
	// A stride without a common divisor reaches all values of each list.
	for new(big.Int).GCD(nil, nil, big.NewInt(int64(stride)), big.NewInt(int64(total))).Int64() > 1 {
		stride++
	}
	for n := 0; n < total; n += stride {
		choice := make([]reflect.Value, len(lists))
		rest := n
		for k, list := range lists {
			choice[k] = reflect.ValueOf(list[rest%len(list)])
			rest /= len(list)
		}
		visit(choice)
	}
}

// argumentsOf returns the samples for each parameter of a function.
func argumentsOf(t *testing.T, f reflect.Type, all map[reflect.Type][]any) [][]any {
	lists := make([][]any, f.NumIn())
	for k := range lists {
		lists[k] = all[f.In(k)]
		if len(lists[k]) == 0 {
			t.Fatalf("no samples of %v", f.In(k))
		}
	}
	return lists
}

func TestPurity(t *testing.T) {
	all := samples()
	for name, function := range landed() {
		f := reflect.ValueOf(function)
		combinations(argumentsOf(t, f.Type(), all), func(choice []reflect.Value) {
			args := make([]reflect.Value, len(choice))
			for k, v := range choice {
				args[k] = spaced(v)
			}
			before := written(args)
			first := f.Call(args)
			want := told(first)
			second := f.Call(choice) // equal arguments elsewhere in memory, nil slices among them
			if got := told(second); got != want {
				t.Fatalf("%s(%s): first %s, then %s for equal arguments", name, before, want, got)
			}
			checkZeros(t, name+"("+before+")", first)
			// Whoever overwrites a result changes neither another result, nor the arguments, nor what later calls return.
			overwrite(second)
			if got := told(first); got != want {
				t.Fatalf("%s(%s): the result %s becomes %s with another one", name, before, want, got)
			}
			overwrite(first)
			if after := written(args); after != before {
				t.Fatalf("%s(%s): the arguments are %s now", name, before, after)
			}
			if got := told(f.Call(args)); got != want {
				t.Fatalf("%s(%s): first %s, later %s", name, before, want, got)
			}
		})
	}
}

// checkZeros checks that all results beside an error or false are zero values.
func checkZeros(t *testing.T, call string, results []reflect.Value) {
	last := results[len(results)-1]
	if len(results) == 1 || last.Kind() == reflect.Bool && last.Bool() || last.Kind() == reflect.Int64 && last.Int() == impl.OK {
		return
	}
	if last.Kind() == reflect.Int64 && impl.CodeName(last.Int()) == "" {
		t.Fatalf("%s: there is no code %d", call, last.Int())
	}
	for _, v := range results[:len(results)-1] {
		if !v.IsZero() && !(v.Kind() == reflect.Slice && v.Len() == 0) {
			t.Fatalf("%s: %v beside %v", call, v, last)
		}
	}
}

// TestOrderOfCalls checks that no call depends on those before it: all of them once forwards, and once backwards.
func TestOrderOfCalls(t *testing.T) {
	all := samples()
	var calls []func() string
	for _, function := range landed() {
		f := reflect.ValueOf(function)
		combinations(argumentsOf(t, f.Type(), all), func(choice []reflect.Value) {
			calls = append(calls, func() string { return told(f.Call(choice)) })
		})
	}
	forwards := make([]string, len(calls))
	for i, call := range calls {
		forwards[i] = call()
	}
	for i, call := range slices.Backward(calls) {
		if got := call(); got != forwards[i] {
			t.Fatalf("the call %d returns %s after later ones, and %s after earlier ones", i, got, forwards[i])
		}
	}
}
