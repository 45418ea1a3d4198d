package tests

import (
	"math"
	"slices"
	"strings"
	"testing"

	"loop.example/g01064/impl"
)

func TestCodes(t *testing.T) {
	codes := []struct {
		code int64
		name string
	}{
		{impl.OK, "ok"}, {impl.ErrInvalid, "invalid"}, {impl.ErrRange, "range"}, {impl.ErrNotFound, "not-found"},
		{impl.ErrExists, "exists"}, {impl.ErrFull, "full"}, {impl.ErrState, "state"}, {impl.ErrSyntax, "syntax"},
		{impl.ErrFormat, "format"}, {impl.ErrClash, "clash"}, {impl.ErrLoose, "loose"},
	}
	for i, c := range codes {
		if c.code != int64(i) {
			t.Errorf("the code %s is %d, want %d", c.name, c.code, i)
		}
		if got := impl.CodeName(c.code); got != c.name {
			t.Errorf("CodeName(%d) = %q, want %q", c.code, got, c.name)
		}
	}
	for _, code := range []int64{-1, 11, 12, 1 << 32, math.MinInt64, math.MaxInt64} {
		if got := impl.CodeName(code); got != "" {
			t.Errorf("CodeName(%d) = %q, want none", code, got)
		}
	}
}

func TestIsName(t *testing.T) {
	if impl.MaxName != 12 {
		t.Errorf("MaxName is %d", impl.MaxName)
	}
	for _, s := range []string{"a", "z", "rod-3", "a-", "a--b", "b0", "c9", "abcdefghijkl", "a23456789-12"} {
		if !impl.IsName(s) {
			t.Errorf("%q is a name", s)
		}
	}
	for _, s := range []string{
		"", "-", "3", "-a", "3rod", "0", "9", "A", "aB", "Z", "rod 3", " rod", "rod ", "rod_3", "a.b", "a/b", "a:b", "a`b", "a{b",
		"abcdefghijklm", "a234567890123", "ä", "aä", "a\u0661", "а", "a\xff", "\x80", "a\x00", "a\n", strings.Repeat("a", 5000),
	} {
		if impl.IsName(s) {
			t.Errorf("%q is no name", s)
		}
	}
}

func TestIsNameOfEachByte(t *testing.T) {
	const later = "abcdefghijklmnopqrstuvwxyz0123456789-"
	for b := range 256 {
		one := string([]byte{byte(b)})
		if got, want := impl.IsName(one), strings.Contains(later[:26], one); got != want {
			t.Errorf("IsName(%q) = %v", one, got)
		}
		if got, want := impl.IsName("a"+one), strings.Contains(later, one); got != want {
			t.Errorf("IsName(%q) = %v", "a"+one, got)
		}
		if got, want := impl.IsName("abcdefghijk"+one), strings.Contains(later, one); got != want {
			t.Errorf("IsName(%q) = %v", "abcdefghijk"+one, got)
		}
	}
}

func TestDecimal(t *testing.T) {
	cases := map[int64]string{
		0: "0", 1: "1", 9: "9", 10: "10", -1: "-1", -10: "-10", 305: "305", 1000: "1000",
		999999999999999999: "999999999999999999", 1000000000000000000: "1000000000000000000",
		math.MaxInt64: "9223372036854775807", math.MinInt64: "-9223372036854775808",
	}
	for n, want := range cases {
		if got := impl.Decimal(n); got != want {
			t.Errorf("Decimal(%d) = %q", n, got)
		}
	}
}

func TestReadDecimal(t *testing.T) {
	cases := map[string]int64{
		"0": 0, "7": 7, "10": 10, "-7": -7, "-10": -10, "305": 305,
		"999999999999999999": 999999999999999999, "-999999999999999999": -999999999999999999,
	}
	for s, want := range cases {
		if got, ok := impl.ReadDecimal(s); got != want || !ok {
			t.Errorf("ReadDecimal(%q) = %d, %v", s, got, ok)
		}
	}
	for n := int64(-2000); n <= 2000; n++ {
		if got, ok := impl.ReadDecimal(impl.Decimal(n)); got != n || !ok {
			t.Errorf("ReadDecimal(Decimal(%d)) = %d, %v", n, got, ok)
		}
	}
	for _, s := range []string{
		"", "-", "+", "+7", "-0", "+0", "00", "07", "-07", "--7", " 7", "7 ", "7 8", "7.0", "7e2", "0x7", "1_000", "1,000", "a", "7a",
		"\u0667", "７", "7\n", "7\x00", "\xff",
		"1000000000000000000", "-1000000000000000000", "9223372036854775807", "-9223372036854775808",
		"9223372036854775808", "000000000000000001", "0000000000000000001", strings.Repeat("9", 5000),
	} {
		if got, ok := impl.ReadDecimal(s); got != 0 || ok {
			t.Errorf("ReadDecimal(%q) = %d, %v", s, got, ok)
		}
	}
}

func TestSplitWords(t *testing.T) {
	cases := []struct {
		text string
		want []string
	}{
		{"", nil}, {" ", nil}, {"     ", nil},
		{"a", []string{"a"}}, {"rod bed", []string{"rod", "bed"}}, {"b a b", []string{"b", "a", "b"}},
		{"  rod   bed  ", []string{"rod", "bed"}}, {" a", []string{"a"}}, {"a ", []string{"a"}},
		{"a\tb\nc\rd\ve", []string{"a\tb\nc\rd\ve"}}, {"\t \n", []string{"\t", "\n"}},
		{"a\u00a0b \u2003c", []string{"a\u00a0b", "\u2003c"}}, {"ä ö", []string{"ä", "ö"}},
		{"\xff\xfe \x80", []string{"\xff\xfe", "\x80"}}, {"\x00 \x1f!\x7f", []string{"\x00", "\x1f!\x7f"}},
	}
	for _, c := range cases {
		if got := impl.SplitWords(c.text); !slices.Equal(got, c.want) {
			t.Errorf("SplitWords(%q) = %q, want %q", c.text, got, c.want)
		}
	}
	many := impl.SplitWords(strings.Repeat(" ab", 3000))
	if len(many) != 3000 || slices.ContainsFunc(many, func(w string) bool { return w != "ab" }) {
		t.Errorf("SplitWords finds %d words of 3000", len(many))
	}
}
