package impl

import (
	"sort"
	"strings"
)

// Limits of rods.
const (
	MinRod   = 100
	MaxRod   = 3000
	MaxThick = 300
	MaxRods  = 20
	MaxGrade = 8
)

// Rod is a rod: its length in millimetres, and how thick it is at its butt and at its tip in tenths of a millimetre.
type Rod struct {
	Length int64
	Butt   int64
	Tip    int64
}

// Fraction is a rational number in lowest terms.
type Fraction struct {
	Num int64
	Den int64
}

// ValidRods reports whether list is valid.
func ValidRods(list []Rod) bool { return areValid(list, MaxRods, isRod) }

// ThickAt returns how thick a rod is at a distance from its butt.
func ThickAt(r Rod, at int64) (Fraction, int64) {
	if !isRod(r) {
		return Fraction{}, ErrInvalid
	}
	if !isBetween(at, 0, r.Length) {
		return Fraction{}, ErrRange
	}
	return lowest(scaledThick(r, at), r.Length), OK
}

// LengthWith returns how long a rod is from its butt on with a thickness.
func LengthWith(r Rod, thick int64) (int64, int64) {
	if !isRod(r) {
		return 0, ErrInvalid
	}
	if !isBetween(thick, 1, MaxThick) {
		return 0, ErrRange
	}
	if r.Butt < thick {
		return 0, ErrNotFound
	}
	// A rod whose Tip is its Butt ends here, so nothing below is divided by 0.
	if r.Tip >= thick {
		return r.Length, OK
	}
	return (r.Butt - thick) * r.Length / (r.Butt - r.Tip), OK
}

// GradeOf returns the grade of a rod by its length.
func GradeOf(r Rod, limits []int64) (int64, int64) {
	if !isRod(r) {
		return 0, ErrInvalid
	}
	if !areLimits(limits) {
		return 0, ErrRange
	}
	return grade(r, limits), OK
}

// CountGrades returns how many rods of each grade there are.
func CountGrades(list []Rod, limits []int64) ([]int64, int64) {
	if !ValidRods(list) {
		return nil, ErrInvalid
	}
	if !areLimits(limits) {
		return nil, ErrRange
	}
	counts := make([]int64, len(limits)+1)
	for _, r := range list {
		counts[grade(r, limits)]++
	}
	return counts, OK
}

// LongestFirst returns the rods by descending lengths.
func LongestFirst(list []Rod) ([]int64, int64) {
	if !ValidRods(list) {
		return nil, ErrInvalid
	}
	order := indicesOf(len(list))
	// sort.Slice is not stable, so the indices decide between rods of one length.
	sort.Slice(order, func(i, k int) bool {
		a, b := order[i], order[k]
		if list[a].Length != list[b].Length {
			return list[a].Length > list[b].Length
		}
		return a < b
	})
	return order, OK
}

// MostAlike returns the two rods that are most alike.
func MostAlike(list []Rod) (int64, int64, int64) {
	if !ValidRods(list) {
		return 0, 0, ErrInvalid
	}
	if len(list) < 2 {
		return 0, 0, ErrNotFound
	}
	first, second := 0, 1
	least := difference(list[0], list[1])
	for i := range list {
		for k := i + 1; k < len(list); k++ {
			// Only a lesser difference counts: of rods that are equally alike the first ones are told.
			if d := difference(list[i], list[k]); d < least {
				first, second, least = i, k, d
			}
		}
	}
	return int64(first), int64(second), OK
}

// RodsBetween returns the rods with lengths between two.
func RodsBetween(list []Rod, low, high int64) ([]int64, int64) {
	if !ValidRods(list) {
		return nil, ErrInvalid
	}
	if !isBetween(low, MinRod, MaxRod) || !isBetween(high, MinRod, MaxRod) {
		return nil, ErrRange
	}
	var found []int64
	for i, r := range list {
		if isBetween(r.Length, low, high) {
			found = append(found, int64(i))
		}
	}
	return found, OK
}

// CutTip returns a rod without its tip.
func CutTip(r Rod, length int64) (Rod, int64) {
	if !isRod(r) {
		return Rod{}, ErrInvalid
	}
	if !isBetween(length, MinRod, r.Length) {
		return Rod{}, ErrRange
	}
	// No part of a rod is thinner than its Tip, so the new one is at least 1 by itself.
	return Rod{Length: length, Butt: r.Butt, Tip: scaledThick(r, length) / r.Length}, OK
}

// RodText returns the text form of a rod.
func RodText(r Rod) string {
	if !isRod(r) {
		return ""
	}
	return Decimal(r.Length) + " mm " + Decimal(r.Butt) + "-" + Decimal(r.Tip)
}

// ReadRod returns the rod with a text form.
func ReadRod(s string) (Rod, bool) {
	r := parseRod(s)
	return r, r != (Rod{})
}

// parseRod returns the zero Rod, which is never valid, if no valid rod has the text s.
func parseRod(s string) Rod {
	length, thickness, _ := strings.Cut(s, " mm ")
	butt, tip, _ := strings.Cut(thickness, "-")
	var r Rod
	// A part that is no number, or is missing, becomes 0, with which no rod is valid.
	r.Length, _ = ReadDecimal(length)
	r.Butt, _ = ReadDecimal(butt)
	r.Tip, _ = ReadDecimal(tip)
	if !isRod(r) {
		return Rod{}
	}
	return r
}

func isRod(r Rod) bool {
	return isBetween(r.Length, MinRod, MaxRod) && isBetween(r.Butt, 1, MaxThick) && isBetween(r.Tip, 1, r.Butt)
}

func areLimits(limits []int64) bool {
	return len(limits) <= MaxGrade && areIncreasing(limits, MinRod, MaxRod)
}

// grade returns the grade of a valid rod for valid limits.
func grade(r Rod, limits []int64) int64 {
	var n int64
	for _, limit := range limits {
		if limit <= r.Length {
			n++
		}
	}
	return n
}

// scaledThick returns the thickness of a rod at a distance times its Length, which is always a whole number.
func scaledThick(r Rod, at int64) int64 {
	return r.Butt*r.Length - (r.Butt-r.Tip)*at
}

// difference returns how much two rods differ; the less, the more they are alike.
func difference(a, b Rod) int64 {
	return distance(a.Length, b.Length) + distance(a.Butt, b.Butt) + distance(a.Tip, b.Tip)
}

// distance returns the difference of two numbers without its sign.
func distance(a, b int64) int64 { return max(a, b) - min(a, b) }

// lowest returns num / den in lowest terms, where num is not negative and den is positive.
func lowest(num, den int64) Fraction {
	a, b := num, den
	for b != 0 {
		a, b = b, a%b
	}
	return Fraction{Num: num / a, Den: den / a}
}

// quotientUp returns num / den, rounded up, where num is not negative and den is positive.
func quotientUp(num, den int64) int64 { return (num + den - 1) / den }
