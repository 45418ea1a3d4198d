package tests

import (
	"bytes"
	"math"
	"math/rand"
	"slices"
	"strings"
	"testing"

	"loop.example/g01064/impl"
)

// wordsFrom returns all words with so many of the letters, in ascending order if these are.
func wordsFrom(letters string, length int) []string {
	words := []string{""}
	for range length {
		var longer []string
		for _, word := range words {
			for i := range len(letters) {
				longer = append(longer, word+letters[i:i+1])
			}
		}
		words = longer
	}
	return words
}

// someWords returns words of all lengths: all short ones of few letters, those of different letters, those that repeat a shorter one or nearly do, and drawn ones.
func someWords() []string {
	var words []string
	for length := 1; length <= 4; length++ {
		words = append(words, wordsFrom("abz", length)...)
	}
	for length := 1; length <= 12; length++ {
		words = append(words, "abcdefghijkl"[:length], strings.Repeat("q", length))
	}
	words = append(words, "ababab", "abaaba", "abababab", "abcabcabc", "aabaabaab", "abcdabcdabcd", "abcdefabcdef", "ababababab", "abababababab", "aabbaabbaabb", "aaaaaaaaaaab", "abbbbbbbbbbb", "ababababababab"[:11], "ababababaa", "zyxwvutsrqpo")
	source := rand.New(rand.NewSource(12))
	for range 40 {
		word := make([]byte, 5+source.Intn(8))
		for i := range word {
			word[i] = "abcz"[source.Intn(2+source.Intn(3))]
		}
		words = append(words, string(word))
	}
	return words
}

// noWords returns texts that are no words.
func noWords() []string {
	return []string{
		"", " ", "A", "aB", "Ab", "a b", "ab ", " ab", "a?", "?", "???", "a-b", "a0", "0", "-", "_", "`", "{", "a`", "{a", "ab\n", "a\x00b", "\x00", "FB", "ä", "aä", "äb", "\uff41", "a\uff42", "\u0161", "\xff", "a\xffb", "\xe1", "\xc1\xa1", "\ufffd",
		"abcdefghijklm", "aaaaaaaaaaaaa", strings.Repeat("ab", 12), strings.Repeat("a", 100000), "abcdefghijk?", "abcdefghijkL", "?bcdefghijkl",
	}
}

// noColours returns texts that are not one small letter.
func noColours() []string {
	return []string{"", "aa", "ab", "abc", "A", "Z", "?", "0", " ", "a ", " a", "`", "{", "-", "\x00", "a\x00", "\xff", "\xe1", "ä", "\u0161", "\uff41", "abcdefghijkl", strings.Repeat("a", 1000)}
}

// someRows returns rows that a drawn word shows, with bytes for any colour, and some in which one colour is drawn again.
func someRows() [][]string {
	rows := [][]string{
		{"???"}, {"a??"}, {"??a"}, {"z??"}, {"??z"}, {"abc"}, {"aba"}, {"ab?", "?ab"}, {"ababa", "babab"}, {"ababab", "ababab"}, {"abc", "???", "abd"}, {"???", "???", "z??"}, slices.Repeat([]string{"???"}, 8),
		{strings.Repeat("?", 60)}, slices.Repeat([]string{strings.Repeat("a", 60)}, 8), {"abcdefghijkl"}, {"abcdefghijklm"}, {"abcdefghijkla"}, slices.Repeat([]string{"?????????????b"}, 2),
	}
	source := rand.New(rand.NewSource(112))
	for range 1500 {
		word := make([]byte, 1+source.Intn(12))
		letters := 1 + source.Intn(4)
		for i := range word {
			word[i] = "abyz"[source.Intn(letters)]
		}
		stakes, rounds, seen := 3+source.Intn(1+source.Intn(58)), 1+source.Intn(8), 1+source.Intn(10)
		line := bytes.Repeat(word, stakes*rounds)
		for i := range line {
			if source.Intn(10) >= seen {
				line[i] = '?'
			}
		}
		if source.Intn(3) == 0 {
			line[source.Intn(stakes*rounds)] = "abyz"[source.Intn(4)]
		}
		var drawn []string
		for r := range rounds {
			drawn = append(drawn, string(line[r*stakes:(r+1)*stakes]))
		}
		rows = append(rows, drawn)
	}
	return rows
}

// noRows returns lists that are no rows.
func noRows() [][]string {
	lists := [][]string{
		nil, {}, {""}, {"a"}, {"ab"}, {"??"}, {"ab", "ab"}, {strings.Repeat("a", 61)}, {strings.Repeat("?", 61)}, {strings.Repeat("?", 1000)}, {"abc", ""}, {"", "abc"}, {"abc", "ab"}, {"ab", "abc"}, {"abc", "abcd"}, {"abcd", "abc"}, {"abc", "abc", "abcd"}, {"abc", "ab", "abcd"}, {"abc", "ab?d"},
		slices.Repeat([]string{"abc"}, 9), slices.Repeat([]string{"???"}, 9), slices.Repeat([]string{"abc"}, 1000), slices.Repeat([]string{""}, 8), append(slices.Repeat([]string{"???"}, 7), "??"), append(slices.Repeat([]string{"???"}, 7), "??A"),
		{"abc", strings.Repeat("a", 61)}, {strings.Repeat("a", 61), "abc"},
		// As many runes, but not as many bytes, and as many bytes, but other runes.
		{"äbc", "abc"}, {"äb", "abc"}, {"abc", "äb"}, {"abä"}, {"ab\xff"}, {"\xe1bc"}, {"ab\ufffd"},
	}
	for _, wrong := range []string{"A", "Z", "`", "{", "@", "[", "0", " ", "!", "*", "-", "\x00", "\n", "\xff"} {
		lists = append(lists, []string{wrong + "bc"}, []string{"a" + wrong + "c"}, []string{"ab" + wrong}, []string{"abc", "ab" + wrong}, []string{wrong + "bc", "abc"}, []string{"???", "??" + wrong, "???"})
	}
	return lists
}

// shownIn returns the colours that a word shows at so many stakes in the rounds from 0 on, round after round.
func shownIn(word string, stakes int64, rounds int) []string {
	line := strings.Repeat(word, int(stakes)*rounds)
	var rows []string
	for range rounds {
		rows = append(rows, line[:stakes])
		line = line[stakes:]
	}
	return rows
}

// showsBy reports whether a word shows rows.
func showsBy(word string, rows []string) bool {
	for r, shown := range shownIn(word, int64(len(rows[0])), len(rows)) {
		for s := range len(shown) {
			if rows[r][s] != '?' && rows[r][s] != shown[s] {
				return false
			}
		}
	}
	return true
}

// wordBy returns the first word with this length that shows rows, letter by letter the least one that the rows allow.
func wordBy(rows []string, length int) (string, bool) {
	line := strings.Join(rows, "")
	word := ""
	for place := range length {
		letter := byte('?')
		for i := place; i < len(line); i += length {
			if line[i] == '?' {
				continue
			}
			if letter != '?' && letter != line[i] {
				return "", false
			}
			letter = line[i]
		}
		if letter == '?' {
			letter = 'a'
		}
		word += string(letter)
	}
	return word, true
}

// lettersOf returns a and the letters of rows in ascending order.
func lettersOf(rows []string) string {
	letters := []byte("a" + strings.ReplaceAll(strings.Join(rows, ""), "?", ""))
	slices.Sort(letters)
	return string(slices.Compact(letters))
}

func TestColourLimits(t *testing.T) {
	if impl.MaxWord != 12 || impl.MaxRowsC != 8 {
		t.Errorf("the limits are %d and %d", impl.MaxWord, impl.MaxRowsC)
	}
}

func TestValidWord(t *testing.T) {
	for _, word := range someWords() {
		if !impl.ValidWord(word) {
			t.Errorf("not ValidWord(%q)", word)
		}
	}
	for _, text := range noWords() {
		if impl.ValidWord(text) {
			t.Errorf("ValidWord(%q)", text)
		}
	}
	for n := range 256 {
		letter := string([]byte{byte(n)})
		for _, word := range []string{letter, letter + "b", "a" + letter, "abcde" + letter + "ghijkl"} {
			if got, want := impl.ValidWord(word), n >= 97 && n <= 122; got != want {
				t.Errorf("ValidWord(%q) = %v", word, got)
			}
		}
	}
}

func TestRowOf(t *testing.T) {
	for _, word := range someWords() {
		for stakes := int64(3); stakes <= 60; stakes++ {
			for r, want := range shownIn(word, stakes, 101) {
				if got, code := impl.RowOf(word, stakes, int64(r)); got != want || code != impl.OK {
					t.Fatalf("RowOf(%s, %d, %d) = %q, %d, want %q", word, stakes, r, got, code, want)
				}
			}
		}
	}
}

func TestRowOfByHand(t *testing.T) {
	cases := []struct {
		word          string
		stakes, round int64
		want          string
	}{
		{"ab", 5, 0, "ababa"}, {"ab", 5, 1, "babab"}, {"ab", 6, 0, "ababab"}, {"ab", 6, 1, "ababab"}, {"abc", 5, 1, "cabca"}, {"abc", 5, 2, "bcabc"}, {"z", 3, 100, "zzz"},
		// Words of which a round shows only a part.
		{"abcdefghijkl", 3, 0, "abc"}, {"abcdefghijkl", 3, 3, "jkl"}, {"abcdefghijkl", 3, 4, "abc"}, {"abcdefghijkl", 5, 2, "klabc"}, {"abcdefghijkl", 11, 1, "labcdefghij"}, {"abcdefghijk", 3, 100, "def"}, {"abcdefg", 60, 100, "bcdefgabcdefgabcdefgabcdefgabcdefgabcdefgabcdefgabcdefgabcde"},
	}
	for _, c := range cases {
		if got, code := impl.RowOf(c.word, c.stakes, c.round); got != c.want || code != impl.OK {
			t.Errorf("RowOf(%s, %d, %d) = %q, %d, want %q", c.word, c.stakes, c.round, got, code, c.want)
		}
	}
}

// TestRowsAgain checks that the number tells after how many rounds the same place of the word, told by its letter, begins a round again.
func TestRowsAgain(t *testing.T) {
	for _, word := range someWords() {
		places := "abcdefghijkl"[:len(word)]
		for stakes := int64(3); stakes <= 60; stakes++ {
			rows := shownIn(places, stakes, 13)
			want := int64(1)
			for rows[want] != rows[0] {
				want++
			}
			if got, code := impl.RowsAgain(word, stakes); got != want || code != impl.OK {
				t.Fatalf("RowsAgain(%s, %d) = %d, %d, want %d", word, stakes, got, code, want)
			}
		}
	}
}

func TestRowsAgainByHand(t *testing.T) {
	cases := []struct {
		word         string
		stakes, want int64
	}{
		{"ab", 5, 2}, {"ab", 6, 1}, {"abc", 5, 3}, {"abc", 6, 1}, {"a", 3, 1}, {"a", 60, 1}, {"abcd", 6, 2}, {"abcdef", 4, 3}, {"abcdef", 9, 2}, {"abcdefghijkl", 3, 4}, {"abcdefghijkl", 5, 12}, {"abcdefghijkl", 8, 3}, {"abcdefghijkl", 60, 1}, {"abcdefghijk", 60, 11}, {"abcdefghijkl", 18, 2}, {"abcdefghij", 15, 2},
		// By the length of the word, even where the colours are the same earlier.
		{"aa", 5, 2}, {"aaa", 3, 1}, {"abab", 5, 4}, {"abab", 6, 2}, {"aaaaaaaaaaaa", 7, 12}, {"abcabc", 9, 2},
	}
	for _, c := range cases {
		if got, code := impl.RowsAgain(c.word, c.stakes); got != c.want || code != impl.OK {
			t.Errorf("RowsAgain(%s, %d) = %d, %d, want %d", c.word, c.stakes, got, code, c.want)
		}
	}
}

// checkSpiral checks that each colour of a round is seen as far from its stake in the next round as told, and that the way is less than half of the word to the left, or at most half to the right.
func checkSpiral(t *testing.T, word string, stakes int64) {
	t.Helper()
	move, code := impl.SpiralOf(word, stakes)
	length := int64(len(word))
	if code != impl.OK || 2*move <= -length || 2*move > length {
		t.Fatalf("SpiralOf(%s, %d) = %d, %d", word, stakes, move, code)
	}
	// Letters that tell the place in the word, so that no other way moves all of them.
	line := strings.Join(shownIn("abcdefghijkl"[:length], stakes, 30), "")
	for i := range int64(len(line)) {
		next := i + stakes + move
		if next < 0 || next >= int64(len(line)) {
			continue
		}
		if line[i] != line[next] {
			t.Fatalf("SpiralOf(%s, %d) = %d, but %c is followed by %c there", word, stakes, move, line[i], line[next])
		}
	}
	for round := int64(0); round < 100; round++ {
		here, hereCode := impl.RowOf(word, stakes, round)
		next, nextCode := impl.RowOf(word, stakes, round+1)
		if hereCode != impl.OK || nextCode != impl.OK {
			t.Fatalf("RowOf(%s, %d, %d) has the code %d, and the next round %d", word, stakes, round, hereCode, nextCode)
		}
		for stake := range stakes {
			if to := stake + move; to >= 0 && to < stakes && here[stake] != next[to] {
				t.Fatalf("SpiralOf(%s, %d) = %d, but after the round %d, %s, comes %s", word, stakes, move, round, here, next)
			}
		}
	}
}

// TestPromise12 checks that colours move as told, and that the shortest word shows the rows, the first one of those with its length, and that no shorter one does.
func TestPromise12(t *testing.T) {
	for _, word := range someWords() {
		for stakes := int64(3); stakes <= 60; stakes++ {
			checkSpiral(t, word, stakes)
		}
	}
	told, none := 0, 0
	for _, rows := range someRows() {
		word, code := impl.ShortestWord(rows)
		shorter := 12
		if code == impl.OK {
			told++
			shorter = len(word) - 1
			if !impl.ValidWord(word) || !showsBy(word, rows) {
				t.Fatalf("ShortestWord(%q) = %s, which does not show them", rows, word)
			}
		} else if none++; code != impl.ErrNotFound || word != "" {
			t.Fatalf("ShortestWord(%q) = %q, %d", rows, word, code)
		}
		for length := 1; length <= shorter; length++ {
			if other, is := wordBy(rows, length); is {
				t.Fatalf("ShortestWord(%q) = %q, but %s shows them", rows, word, other)
			}
			letters := lettersOf(rows)
			if math.Pow(float64(len(letters)), float64(length)) > 300 {
				continue
			}
			for _, other := range wordsFrom(letters, length) {
				if showsBy(other, rows) {
					t.Fatalf("ShortestWord(%q) = %q, but %s shows them", rows, word, other)
				}
			}
		}
	}
	if told < 200 || none < 100 {
		t.Errorf("%d rows with a word and %d without one are too few", told, none)
	}
}

func TestSpiralOfByHand(t *testing.T) {
	cases := []struct {
		word         string
		stakes, want int64
	}{
		{"a", 3, 0}, {"a", 60, 0}, {"ab", 5, 1}, {"ab", 6, 0}, {"abc", 3, 0}, {"abc", 4, -1}, {"abc", 5, 1}, {"abcd", 5, -1}, {"abcd", 6, 2}, {"abcd", 7, 1}, {"abcd", 8, 0}, {"abcde", 3, 2}, {"abcde", 6, -1}, {"abcde", 7, -2}, {"abcde", 8, 2}, {"abcde", 9, 1}, {"abcde", 10, 0},
		// A word that is longer than a round, half of it, and by its length where it repeats a shorter one.
		{"abcdefghijkl", 3, -3}, {"abcdefghijkl", 5, -5}, {"abcdefghijkl", 6, 6}, {"abcdefghijkl", 7, 5}, {"abcdefghijkl", 11, 1}, {"abcdefghijkl", 18, 6}, {"abcdefghijkl", 60, 0}, {"abcdefghijkl", 59, 1}, {"abcdefghijk", 5, -5}, {"abcdefghijk", 6, 5}, {"abcdefghijk", 60, -5}, {"abab", 6, 2}, {"aaaa", 5, -1}, {"aa", 3, 1},
	}
	for _, c := range cases {
		if got, code := impl.SpiralOf(c.word, c.stakes); got != c.want || code != impl.OK {
			t.Errorf("SpiralOf(%s, %d) = %d, %d, want %d", c.word, c.stakes, got, code, c.want)
		}
	}
}

func TestCountColour(t *testing.T) {
	for i, word := range someWords() {
		for stakes := int64(3 + i%3); stakes <= 60; stakes += 3 {
			rows := shownIn(word, stakes, 100)
			for _, rounds := range []int64{0, 1, 2, 3, 7, 13, 99, 100} {
				for _, colour := range []string{"a", "b", "q", "z", word[:1], word[len(word)-1:]} {
					want := int64(0)
					for _, row := range rows[:rounds] {
						want += int64(strings.Count(row, colour))
					}
					if got, code := impl.CountColour(word, stakes, rounds, colour); got != want || code != impl.OK {
						t.Fatalf("CountColour(%s, %d, %d, %s) = %d, %d, want %d", word, stakes, rounds, colour, got, code, want)
					}
				}
			}
		}
	}
}

func TestCountColourByHand(t *testing.T) {
	cases := []struct {
		word           string
		stakes, rounds int64
		colour         string
		want           int64
	}{
		{"ab", 5, 2, "a", 5}, {"ab", 5, 1, "a", 3}, {"ab", 5, 1, "b", 2}, {"ab", 5, 0, "a", 0}, {"ab", 5, 3, "a", 8}, {"a", 60, 100, "a", 6000}, {"a", 3, 1, "a", 3}, {"aa", 3, 1, "a", 3}, {"aaa", 5, 2, "a", 10},
		// Colours that the word does not have, and some that are not seen yet.
		{"ab", 5, 100, "c", 0}, {"b", 60, 100, "a", 0}, {"abcdefghijkl", 3, 1, "d", 0}, {"abcdefghijkl", 3, 2, "d", 1}, {"abcdefghijkl", 3, 3, "l", 0}, {"abcdefghijkl", 3, 4, "l", 1}, {"abcdefghijkl", 11, 1, "l", 0}, {"abcdefghijkl", 11, 2, "l", 1}, {"abcdefghijkl", 60, 100, "l", 500}, {"abcdefghijkl", 3, 100, "a", 25},
	}
	for _, c := range cases {
		if got, code := impl.CountColour(c.word, c.stakes, c.rounds, c.colour); got != c.want || code != impl.OK {
			t.Errorf("CountColour(%s, %d, %d, %s) = %d, %d, want %d", c.word, c.stakes, c.rounds, c.colour, got, code, c.want)
		}
	}
}

func TestWordFor(t *testing.T) {
	for _, rows := range someRows() {
		letters := lettersOf(rows)
		for length := 1; length <= 12; length++ {
			want, is := wordBy(rows, length)
			wantCode := int64(impl.OK)
			if !is {
				wantCode = impl.ErrClash
			}
			got, code := impl.WordFor(rows, int64(length))
			if got != want || code != wantCode {
				t.Fatalf("WordFor(%q, %d) = %q, %d, want %q, %d", rows, length, got, code, want, wantCode)
			}
			if math.Pow(float64(len(letters)), float64(length)) > 300 {
				continue
			}
			// No word of other letters shows more, and none of them is before all of these.
			words := wordsFrom(letters, length)
			first := slices.IndexFunc(words, func(word string) bool { return showsBy(word, rows) })
			if (first >= 0) != (code == impl.OK) || first >= 0 && words[first] != got {
				t.Fatalf("WordFor(%q, %d) = %q, %d, and the first word has the index %d of %v", rows, length, got, code, first, words)
			}
		}
	}
}

func TestWordForByHand(t *testing.T) {
	wide := strings.Repeat("?", 59) + "k"
	cases := []struct {
		rows   string
		length int64
		want   string
		code   int64
	}{
		{"aba?", 2, "ab", impl.OK}, {"abc", 2, "", impl.ErrClash}, {"abc", 3, "abc", impl.OK}, {"aba", 1, "", impl.ErrClash}, {"aaa", 1, "a", impl.OK}, {"zzz", 1, "z", impl.OK}, {"ababa babab", 2, "ab", impl.OK}, {"ababab bababa", 2, "", impl.ErrClash}, {"ababab bababa", 12, "abababbababa", impl.OK}, {"ababab bababa", 11, "abababbabab", impl.OK}, {"ababab bababa", 10, "", impl.ErrClash}, {"ababab bababa", 9, "abababbab", impl.OK}, {"ababab bababa", 8, "", impl.ErrClash},
		// Letters that are not seen, for which the rows are too short or want any colour.
		{"abc", 4, "abca", impl.OK}, {"abc", 12, "abcaaaaaaaaa", impl.OK}, {"zzz", 5, "zzzaa", impl.OK}, {"???", 1, "a", impl.OK}, {"???", 12, "aaaaaaaaaaaa", impl.OK}, {"??z", 3, "aaz", impl.OK}, {"??z", 2, "za", impl.OK}, {"??z", 1, "z", impl.OK}, {"z?z", 2, "za", impl.OK}, {"?z? ?z?", 4, "zzaa", impl.OK}, {"?z? z??", 3, "zza", impl.OK}, {"??? ??? ??? b??", 4, "abaa", impl.OK}, {"??? ??? ??? b??", 12, "aaaaaaaaabaa", impl.OK}, {"b?b c?c", 2, "bc", impl.OK}, {"b?b c?c", 1, "", impl.ErrClash}, {"b?b c?c", 4, "bcbc", impl.OK}, {"b?b c?c", 5, "", impl.ErrClash},
		// A letter that is asked for in a later round than another one at the same place.
		{"a??? ???? b???", 8, "", impl.ErrClash}, {"a??? ???? b???", 7, "abaaaaa", impl.OK}, {"a??? ???? b???", 5, "aaaba", impl.OK}, {"a??? ???? b???", 4, "", impl.ErrClash}, {wide, 12, "aaaaaaaaaaak", impl.OK}, {wide, 7, "aaakaaa", impl.OK}, {wide + " " + wide, 12, "aaaaaaaaaaak", impl.OK}, {wide + " " + wide, 7, "kaakaaa", impl.OK},
	}
	for _, c := range cases {
		if c.code != impl.OK {
			c.want = ""
		}
		if got, code := impl.WordFor(strings.Fields(c.rows), c.length); got != c.want || code != c.code {
			t.Errorf("WordFor(%s, %d) = %q, %d, want %q, %d", c.rows, c.length, got, code, c.want, c.code)
		}
	}
}

func TestShortestWordByHand(t *testing.T) {
	cases := map[string]string{
		"abcab": "abc", "???": "a", "zzz": "z", "z??": "z", "aba": "ab", "ab?": "ab", "a?b": "aab", "a?a": "a", "ababa babab": "ab", "ababa ababa": "ababa", "ababab ababab": "ab", "??? ??? z??": "z", "b?b c?c": "bc", "abcdefghijkl": "abcdefghijkl", "abcdefghijkla": "abcdefghijkl", "abc def ghi jkl": "abcdefghijkl", "abc def ghi jkl abc": "abcdefghijkl", "aaaaaaaaaaab": "aaaaaaaaaaab",
		"a???????????b": "aabaa", "ab??????????ba": "abbaa", "abc abd": "abcabd", "a??? ???? b???": "aab", "?z? ?y?": "yz", "zyx wvu": "zyxwvu",
		// Rows that no word of at most 12 letters shows.
		"abcdefghijklm": "", "abc def ghi jkl mno": "", "aaaaaaaaaaaab": "", "abcdefghijklb": "", strings.Repeat("a", 59) + "b": "",
	}
	for rows, want := range cases {
		wantCode := int64(impl.OK)
		if want == "" {
			wantCode = impl.ErrNotFound
		}
		if got, code := impl.ShortestWord(strings.Fields(rows)); got != want || code != wantCode {
			t.Errorf("ShortestWord(%s) = %q, %d, want %q", rows, got, code, want)
		}
	}
}

func TestSameRows(t *testing.T) {
	words := someWords()
	for i, a := range words {
		for k, b := range words {
			for _, stakes := range []int64{3, 60, int64(4 + (i+k)%56)} {
				want := slices.Equal(shownIn(a, stakes, 50), shownIn(b, stakes, 50))
				if got, code := impl.SameRows(a, b, stakes); got != want || code != impl.OK {
					t.Fatalf("SameRows(%s, %s, %d) = %v, %d", a, b, stakes, got, code)
				}
			}
		}
	}
}

func TestSameRowsByHand(t *testing.T) {
	cases := []struct {
		a, b string
		want bool
	}{
		{"ab", "abab", true}, {"ab", "ab", true}, {"ab", "ba", false}, {"a", "aaaaaaaaaaaa", true}, {"a", "b", false}, {"aa", "aaa", true}, {"abab", "ababab", true}, {"abab", "abababab", true}, {"ab", "aba", false}, {"aba", "abaaba", true}, {"abaab", "abaaba", false}, {"abc", "abcabcabcabc", true}, {"abcabc", "abcabcabc", true},
		// Words that differ only where a first round, or some first ones, do not show it.
		{"abc", "abcd", false}, {"abcabcabcabc", "abcabcabcabd", false}, {"aaaaaaaaaaa", "aaaaaaaaaaab", false}, {"aaaaaaaaaaab", "a", false}, {"abcabcabca", "abc", false}, {"abababababab", "ababababab", true}, {"ababababab", "abababababa", false}, {"abaabaabaab", "abaabaabaaba", false},
	}
	for _, c := range cases {
		for _, stakes := range []int64{3, 4, 5, 12, 59, 60} {
			for _, pair := range [][2]string{{c.a, c.b}, {c.b, c.a}} {
				if got, code := impl.SameRows(pair[0], pair[1], stakes); got != c.want || code != impl.OK {
					t.Errorf("SameRows(%s, %s, %d) = %v, %d", pair[0], pair[1], stakes, got, code)
				}
			}
		}
	}
}

func TestStripesWith(t *testing.T) {
	for _, word := range someWords() {
		var want []int64
		for most := int64(3); most <= 60; most++ {
			rows := shownIn(word, most, 101)
			if len(slices.Compact(rows)) == 1 {
				want = append(want, most)
			}
			if got, code := impl.StripesWith(word, most); !slices.Equal(got, want) || code != impl.OK {
				t.Fatalf("StripesWith(%s, %d) = %v, %d, want %v", word, most, got, code, want)
			}
		}
	}
}

func TestStripesWithByHand(t *testing.T) {
	cases := []struct {
		word string
		most int64
		want []int64
	}{
		{"ab", 8, []int64{4, 6, 8}}, {"ab", 3, nil}, {"ab", 4, []int64{4}}, {"a", 3, []int64{3}}, {"a", 6, []int64{3, 4, 5, 6}}, {"abc", 10, []int64{3, 6, 9}}, {"abcdefghijkl", 11, nil}, {"abcdefghijkl", 12, []int64{12}}, {"abcdefghijkl", 60, []int64{12, 24, 36, 48, 60}}, {"abcdefghijk", 60, []int64{11, 22, 33, 44, 55}},
		// Words that repeat a shorter one, once and more often, and one that nearly does.
		{"aaaaaaaaaaaa", 5, []int64{3, 4, 5}}, {"abab", 8, []int64{4, 6, 8}}, {"abcabc", 10, []int64{3, 6, 9}}, {"abcdabcdabcd", 13, []int64{4, 8, 12}}, {"ababababab", 7, []int64{4, 6}}, {"abaabaab", 20, []int64{8, 16}}, {"aab", 7, []int64{3, 6}},
	}
	for _, c := range cases {
		if got, code := impl.StripesWith(c.word, c.most); !slices.Equal(got, c.want) || code != impl.OK {
			t.Errorf("StripesWith(%s, %d) = %v, %d, want %v", c.word, c.most, got, code, c.want)
		}
	}
}

// checkColourErrors checks that all functions with one word and stakes return one code and zeros.
func checkColourErrors(t *testing.T, word string, stakes, round int64, colour string, want int64) {
	t.Helper()
	numbers := map[string]func() (int64, int64){
		"RowsAgain":   func() (int64, int64) { return impl.RowsAgain(word, stakes) },
		"SpiralOf":    func() (int64, int64) { return impl.SpiralOf(word, stakes) },
		"CountColour": func() (int64, int64) { return impl.CountColour(word, stakes, round, colour) },
	}
	for name, f := range numbers {
		if n, code := f(); n != 0 || code != want {
			t.Errorf("%s of %q, %d, %d and %q = %d, %d, want the code %d", name, word, stakes, round, colour, n, code, want)
		}
	}
	if row, code := impl.RowOf(word, stakes, round); row != "" || code != want {
		t.Errorf("RowOf(%q, %d, %d) = %q, %d, want the code %d", word, stakes, round, row, code, want)
	}
	if list, code := impl.StripesWith(word, stakes); len(list) != 0 || code != want {
		t.Errorf("StripesWith(%q, %d) = %v, %d, want the code %d", word, stakes, list, code, want)
	}
}

func TestNoWords(t *testing.T) {
	for _, word := range noWords() {
		for _, stakes := range append(noStakes(), 3, 5, 60) { // no word comes before all that is out of its range
			for _, round := range []int64{math.MinInt64, -1, 0, 1, 100, 101, math.MaxInt64} {
				for _, colour := range []string{"a", "", "ab", "?"} {
					checkColourErrors(t, word, stakes, round, colour, impl.ErrInvalid)
				}
			}
			for _, other := range append(noWords(), "a", "ab", "abcdefghijkl", word) {
				for _, pair := range [][2]string{{word, other}, {other, word}} {
					if is, code := impl.SameRows(pair[0], pair[1], stakes); is || code != impl.ErrInvalid {
						t.Errorf("SameRows(%q, %q, %d) = %v, %d", pair[0], pair[1], stakes, is, code)
					}
				}
			}
		}
	}
}

func TestNoStakesForWords(t *testing.T) {
	for _, word := range someWords() {
		for _, stakes := range noStakes() {
			checkColourErrors(t, word, stakes, 0, "a", impl.ErrRange)
			for _, other := range []string{word, "b", "abcdefghijkl"} {
				if is, code := impl.SameRows(word, other, stakes); is || code != impl.ErrRange {
					t.Errorf("SameRows(%q, %q, %d) = %v, %d", word, other, stakes, is, code)
				}
			}
		}
	}
}

func TestNoRoundsAndColours(t *testing.T) {
	noRounds := []int64{math.MinInt64, -100, -1, 101, 102, 1000, 1 << 32, math.MaxInt64 - 1, math.MaxInt64}
	for _, word := range []string{"a", "ab", "abcdefghijkl"} {
		for _, stakes := range []int64{3, 5, 60} {
			for _, round := range noRounds {
				if row, code := impl.RowOf(word, stakes, round); row != "" || code != impl.ErrRange {
					t.Errorf("RowOf(%s, %d, %d) = %q, %d", word, stakes, round, row, code)
				}
				for _, colour := range append(noColours(), "a", "x") {
					if n, code := impl.CountColour(word, stakes, round, colour); n != 0 || code != impl.ErrRange {
						t.Errorf("CountColour(%s, %d, %d, %q) = %d, %d", word, stakes, round, colour, n, code)
					}
				}
			}
			for _, rounds := range []int64{0, 1, 100} {
				for _, colour := range noColours() {
					if n, code := impl.CountColour(word, stakes, rounds, colour); n != 0 || code != impl.ErrRange {
						t.Errorf("CountColour(%s, %d, %d, %q) = %d, %d", word, stakes, rounds, colour, n, code)
					}
				}
			}
		}
	}
}

func TestNoRows(t *testing.T) {
	for _, rows := range noRows() {
		if word, code := impl.ShortestWord(rows); word != "" || code != impl.ErrInvalid {
			t.Errorf("ShortestWord(%q) = %q, %d", rows, word, code)
		}
		for _, length := range []int64{math.MinInt64, -1, 0, 1, 3, 12, 13, math.MaxInt64} {
			if word, code := impl.WordFor(rows, length); word != "" || code != impl.ErrInvalid {
				t.Errorf("WordFor(%q, %d) = %q, %d", rows, length, word, code)
			}
		}
	}
	for _, rows := range someRows()[:40] {
		for _, length := range []int64{math.MinInt64, -12, -1, 0, 13, 14, 60, 1 << 32, math.MaxInt64 - 1, math.MaxInt64} {
			if word, code := impl.WordFor(rows, length); word != "" || code != impl.ErrRange {
				t.Errorf("WordFor(%q, %d) = %q, %d", rows, length, word, code)
			}
		}
	}
}
