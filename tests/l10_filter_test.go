package tests

import (
	"math"
	"slices"
	"strings"
	"testing"

	"loop.example/g01923/impl"
)

var (
	editLengthsOutOfRange = slices.Concat(integersFarOutside, []int{-41, -40, -2, -1, 41, 42, 1000})
	gramsOutOfRange       = slices.Concat(integersFarOutside, []int{-3, -2, -1, 0, 4, 5, 40})
)

// neighboursOf are the strings that become s by one edit of another byte.
func neighboursOf(s string) []string {
	var all []string
	for place := range len(s) + 1 {
		all = append(all, s[:place]+"x"+s[place:])
		if place < len(s) {
			all = append(all, s[:place]+s[place+1:], s[:place]+"x"+s[place+1:])
		}
	}
	return all
}

// filterStrings are empty, similar, without a common byte, without letters, and
// of the lengths at MaxEditText. Some of them are equal.
func filterStrings() []string {
	all := []string{
		"", "", "a", "b", "aa", "ab", "ba", "aaa", "aba", "bab", "abab", "baba", "anna", "ann", "anna", "bob", "jones",
		"xyz", "01 2", "smith anna", "\x00", "\xff", "\xff\x00", "é", "è", " ", "'-'", "\n\t\x80", "aaaaaaaaaa", "aabaabaaba",
	}
	for _, s := range []string{"smith", "annanna", "\xff\x00\x80 \xff"} {
		all = append(append(all, s), neighboursOf(s)...)
	}
	for _, n := range []int{impl.MaxEditText - 1, impl.MaxEditText, impl.MaxEditText + 1} {
		mixed := everyByte()[230-n : 230]
		all = append(all, strings.Repeat("a", n), strings.Repeat("ab", n)[:n], strings.Repeat("anna smith ", n)[:n],
			mixed, mixed[:n/2]+"x"+mixed[n/2+1:], mixed[1:], mixed[2:])
	}
	return all
}

// limitsOf are limits at the lengths of two strings and at their distance, and
// those at the limits of the filters.
func limitsOf(a, b string) []int {
	shorter, longer, d := min(len(a), len(b)), max(len(a), len(b)), impl.EditDistance(a, b)
	limits := []int{
		-1, 0, 1, 2, shorter - 1, shorter, longer - 1, longer, longer + 1, longer - shorter - 1, longer - shorter,
		d - 1, d, d + 1, impl.MaxEditText, impl.MaxEditText + 1,
	}
	slices.Sort(limits)
	return slices.Compact(limits)
}

// everyFilterCase calls visit with every two of the strings and each of their limits.
func everyFilterCase(l []string, visit func(a, b string, limit int)) {
	for _, a := range l {
		for _, b := range l {
			for _, limit := range limitsOf(a, b) {
				visit(a, b, limit)
			}
		}
	}
}

// The promise: no filter drops a pair that meets its threshold.
func checkNotDropped(t *testing.T, a, b string, limit int) {
	t.Helper()
	if !impl.LengthFilter(a, b, limit) {
		t.Errorf("LengthFilter(%q, %q, %d) drops the pair", a, b, limit)
	}
	for q := 1; q <= impl.MaxGram; q++ {
		if !impl.GramFilter(a, b, q, limit) {
			t.Errorf("GramFilter(%q, %q, %d, %d) drops the pair", a, b, q, limit)
		}
	}
	if !impl.PassesFilters(a, b, limit) {
		t.Errorf("PassesFilters(%q, %q, %d) drops the pair", a, b, limit)
	}
}

func TestFiltersDropNoSimilarPair(t *testing.T) {
	for _, l := range [][]string{filterStrings(), stringsOf("ab", 5), stringsOf("a\xffc", 3), longTexts()[40:], longBytes()[40:]} {
		similar, dropped := 0, 0
		everyFilterCase(l, func(a, b string, limit int) {
			d := impl.EditDistance(a, b)
			switch {
			case 0 <= d && d <= limit && limit <= impl.MaxEditText:
				similar++
				checkNotDropped(t, a, b, limit)
			case !impl.PassesFilters(a, b, limit):
				dropped++
			}
		})
		if similar < 1000 || dropped < 1000 {
			t.Errorf("%d cases have a similar pair, and %d others are dropped", similar, dropped)
		}
	}
}

// Edits that are spread over a string change the most grams.
func TestFiltersDropNoPairWithSpreadEdits(t *testing.T) {
	whole := everyByte()[50 : 50+impl.MaxEditText]
	for step := 1; step <= impl.MaxEditText; step++ {
		for first := range step {
			changed, edits := []byte(whole), 0
			for place := first; place < len(changed); place += step {
				changed[place] = 'z' + 1
				edits++
			}
			for limit := edits; limit <= impl.MaxEditText; limit++ {
				checkNotDropped(t, whole, string(changed), limit)
				checkNotDropped(t, string(changed), whole, limit)
			}
			shortened := strings.ReplaceAll(string(changed), "{", "")
			checkNotDropped(t, whole, shortened, edits)
			checkNotDropped(t, shortened, whole, edits)
		}
	}
}

// The edge case of the chapter: a limit that is not less than the length.
func TestFiltersKeepEveryPairWithALimitOfTheLength(t *testing.T) {
	for _, a := range filterStrings() {
		for _, b := range filterStrings() {
			for limit := max(len(a), len(b)); limit <= impl.MaxEditText; limit++ {
				checkNotDropped(t, a, b, limit)
				if least := impl.MinCommonGrams(len(a), len(b), 1, limit); least != 0 {
					t.Errorf("MinCommonGrams(%d, %d, 1, %d) = %d", len(a), len(b), limit, least)
				}
			}
		}
	}
}

// checkFilters compares the filters with the definitions of the chapter.
func checkFilters(t *testing.T, a, b string, limit int) {
	t.Helper()
	passes := max(len(a), len(b))-min(len(a), len(b)) <= limit
	if got := impl.LengthFilter(a, b, limit); got != passes {
		t.Errorf("LengthFilter(%q, %q, %d) = %v", a, b, limit, got)
	}
	for q := range impl.MaxGram + 2 {
		least := impl.MinCommonGrams(len(a), len(b), q, limit)
		want := least >= 0 && impl.CommonGrams(impl.QGrams(a, q), impl.QGrams(b, q)) >= least
		if got := impl.GramFilter(a, b, q, limit); got != want {
			t.Errorf("GramFilter(%q, %q, %d, %d) = %v", a, b, q, limit, got)
		}
		if q == 2 || q == 3 {
			passes = passes && want
		}
	}
	if got := impl.PassesFilters(a, b, limit); got != passes {
		t.Errorf("PassesFilters(%q, %q, %d) = %v", a, b, limit, got)
	}
}

func TestFiltersFollowTheDefinition(t *testing.T) {
	for _, l := range [][]string{filterStrings(), stringsOf("ab", 5), stringsOf("a\xffc", 3)} {
		everyFilterCase(l, func(a, b string, limit int) { checkFilters(t, a, b, limit) })
	}
	texts, bytes := longTexts(), longBytes()
	for i, a := range texts {
		for _, j := range []int{i, (i + 1) % len(texts), (i * 7) % len(texts), len(texts) - 1 - i} {
			for limit := -1; limit <= impl.MaxEditText+1; limit++ {
				checkFilters(t, a, texts[j], limit)
				checkFilters(t, bytes[i], bytes[j], limit)
				checkFilters(t, a, bytes[j], limit)
			}
		}
	}
}

func checkLengthFilter(t *testing.T, lengthA, lengthB, limit int, want bool) {
	t.Helper()
	a, b := strings.Repeat("a", lengthA), strings.Repeat("\xff", lengthB)
	if got := impl.LengthFilter(a, b, limit); got != want {
		t.Errorf("LengthFilter of %d and %d bytes, %d = %v", lengthA, lengthB, limit, got)
	}
	if got := impl.LengthFilter(b, a, limit); got != want {
		t.Errorf("LengthFilter of %d and %d bytes, %d = %v", lengthB, lengthA, limit, got)
	}
}

func TestLengthFilterAtTheLimit(t *testing.T) {
	for _, length := range []int{0, 1, 2, 3, 5, 38, 39, 40, 41, 1000} {
		for _, limit := range []int{0, 1, 2, 3, 39, 40, 41, 100, 5000} {
			if limit > 0 {
				checkLengthFilter(t, length, length+limit-1, limit, true)
			}
			checkLengthFilter(t, length, length+limit, limit, true)
			checkLengthFilter(t, length, length+limit+1, limit, false)
		}
	}
}

func TestLengthFilterOfExtremeLimits(t *testing.T) {
	for _, length := range []int{0, 1, 5, 40, 41, 100000} {
		for _, other := range []int{0, 1, 5, 40, 41, 100000} {
			for _, limit := range []int{math.MinInt, math.MinInt + 1, -100001, -100000, -41, -40, -5, -1} {
				checkLengthFilter(t, length, other, limit, false)
			}
			for _, limit := range []int{100000, 1 << 32, math.MaxInt - 1, math.MaxInt} {
				checkLengthFilter(t, length, other, limit, true)
			}
		}
	}
}

func checkMinCommonGrams(t *testing.T, lengthA, lengthB, q, limit, want int) {
	t.Helper()
	if got := impl.MinCommonGrams(lengthA, lengthB, q, limit); got != want {
		t.Errorf("MinCommonGrams(%d, %d, %d, %d) = %d, want %d", lengthA, lengthB, q, limit, got, want)
	}
	if got := impl.MinCommonGrams(lengthB, lengthA, q, limit); got != want {
		t.Errorf("MinCommonGrams(%d, %d, %d, %d) = %d, want %d", lengthB, lengthA, q, limit, got, want)
	}
}

func TestMinCommonGramsValues(t *testing.T) {
	for _, c := range []struct{ lengthA, lengthB, q, limit, want int }{
		{5, 6, 2, 1, 3},
		{3, 3, 2, 2, 0},
		{5, 5, 2, 1, 2},
		{5, 5, 3, 1, 0},
		{6, 6, 3, 1, 1},
		{0, 6, 3, 1, 1},
		{10, 9, 1, 4, 6},
		// All grams of the longer string are common if there is no edit.
		{0, 0, 1, 0, 0},
		{0, 0, 2, 0, 0},
		{0, 0, 3, 0, 0},
		{0, 1, 1, 0, 1},
		{0, 1, 2, 0, 0},
		{1, 1, 1, 0, 1},
		{1, 2, 3, 0, 0},
		{2, 3, 3, 0, 1},
		{0, 40, 1, 0, 40},
		{1, 40, 2, 0, 39},
		{40, 40, 3, 0, 38},
		// The difference is 1, 0 and negative.
		{40, 40, 1, 39, 1},
		{40, 40, 1, 40, 0},
		{39, 39, 1, 40, 0},
		{40, 0, 2, 19, 1},
		{40, 0, 2, 20, 0},
		{40, 1, 3, 12, 2},
		{40, 1, 3, 13, 0},
		{38, 38, 3, 12, 0},
		{40, 40, 3, 40, 0},
		{0, 0, 3, 40, 0},
		{0, 1, 1, 1, 0},
		{1, 1, 1, 40, 0},
		// Lengths, gram lengths and limits that are out of range by one.
		{41, 3, 2, 1, -1},
		{41, 40, 2, 1, -1},
		{41, 41, 1, 0, -1},
		{-1, 40, 2, 1, -1},
		{-1, -1, 2, 1, -1},
		{-1, 41, 2, 1, -1},
		{5, 5, 0, 1, -1},
		{5, 5, 4, 1, -1},
		{0, 0, 0, 0, -1},
		{5, 5, 2, -1, -1},
		{5, 5, 2, 41, -1},
		{0, 0, 1, -1, -1},
		{40, 40, 1, 41, -1},
	} {
		checkMinCommonGrams(t, c.lengthA, c.lengthB, c.q, c.limit, c.want)
	}
}

func TestMinCommonGramsOfAllArguments(t *testing.T) {
	for lengthA := range impl.MaxEditText + 1 {
		for lengthB := range lengthA + 1 {
			for q := 1; q <= impl.MaxGram; q++ {
				// Each further edit takes q grams, as long as there are that many.
				want := max(0, lengthA+1-q)
				for limit := range impl.MaxEditText + 1 {
					checkMinCommonGrams(t, lengthA, lengthB, q, limit, want)
					want = max(0, want-q)
				}
			}
		}
	}
}

func TestMinCommonGramsOutOfRange(t *testing.T) {
	lengths, grams := []int{0, 1, 2, 3, 39, 40}, []int{1, 2, 3}
	for _, length := range slices.Concat(lengths, editLengthsOutOfRange) {
		for _, q := range slices.Concat(grams, gramsOutOfRange) {
			for _, limit := range slices.Concat(lengths, editLengthsOutOfRange) {
				for _, bad := range editLengthsOutOfRange {
					checkMinCommonGrams(t, length, bad, q, limit, -1)
					checkMinCommonGrams(t, length, length, q, bad, -1)
				}
				for _, bad := range gramsOutOfRange {
					checkMinCommonGrams(t, length, 5, bad, limit, -1)
				}
			}
		}
	}
}

func checkGramFilter(t *testing.T, a, b string, q, limit int, want bool) {
	t.Helper()
	if got := impl.GramFilter(a, b, q, limit); got != want {
		t.Errorf("GramFilter(%q, %q, %d, %d) = %v", a, b, q, limit, got)
	}
	if got := impl.GramFilter(b, a, q, limit); got != want {
		t.Errorf("GramFilter(%q, %q, %d, %d) = %v", b, a, q, limit, got)
	}
}

func TestGramFilterValues(t *testing.T) {
	most := strings.Repeat("a", 40)
	for _, c := range []struct {
		a, b                    string
		q, limit, least, common int
	}{
		// As many common grams as there must be.
		{"smith", "smyth", 2, 1, 2, 2},
		{"abcdefg", "abcxefg", 3, 1, 2, 2},
		{"anna", "anna", 2, 0, 3, 3},
		{"abc", "cab", 1, 0, 3, 3},
		{"aab", "abb", 1, 1, 2, 2},
		{"aaaa", "aaba", 2, 1, 1, 1},
		{"\xff\x00\xff", "\xff\x00\xfe", 2, 0, 2, 1},
		{most, most, 1, 0, 40, 40},
		{most, most, 3, 0, 38, 38},
		{most, most[1:], 2, 0, 39, 38},
		// More and fewer than that.
		{"smith", "smiths", 2, 1, 3, 4},
		{"ann", "anna", 2, 1, 1, 2},
		{"smith", "jones", 2, 1, 2, 0},
		{"abcdef", "ghijkl", 1, 2, 4, 0},
		// One fewer.
		{"smith", "smxxh", 2, 1, 2, 1},
		{"ann", "anna", 2, 0, 3, 2},
		{"abcdef", "uvwxyz", 2, 2, 1, 0},
		{"abcdef", "bcdefx", 3, 0, 4, 3},
		{"a", "b", 1, 0, 1, 0},
		{"", "a", 1, 0, 1, 0},
		{"aab", "abb", 1, 0, 3, 2},
		// A gram counts as often as both strings have it, wherever it is.
		{"aaaaa", "abaab", 2, 1, 2, 1},
		{"aabb", "abab", 1, 0, 4, 4},
		{"abcabc", "abcxyz", 3, 1, 1, 1},
		{"abab", "baba", 2, 0, 3, 2},
		{"abcd", "cdab", 2, 0, 3, 2},
		// No common gram is needed.
		{"abcdef", "xyzuvw", 2, 3, 0, 0},
		{"abc", "xyz", 3, 1, 0, 0},
		{"", "", 1, 0, 0, 0},
		{"", "", 3, 40, 0, 0},
		{"a", "b", 2, 0, 0, 0},
		{"a", "a", 3, 0, 0, 0},
		{"", "a", 1, 1, 0, 0},
		{"", "ab", 3, 0, 0, 0},
		{most, "", 1, 40, 0, 0},
	} {
		common := impl.CommonGrams(impl.QGrams(c.a, c.q), impl.QGrams(c.b, c.q))
		if least := impl.MinCommonGrams(len(c.a), len(c.b), c.q, c.limit); least != c.least || common != c.common {
			t.Errorf("%q and %q have %d of %d common grams", c.a, c.b, common, least)
		}
		checkGramFilter(t, c.a, c.b, c.q, c.limit, c.common >= c.least)
	}
}

func TestGramFilterOutOfRange(t *testing.T) {
	long := strings.Repeat("a", 41)
	for _, s := range []string{"", "a", "anna", "\xff\x00", long[:40]} {
		for _, q := range gramsOutOfRange {
			for _, limit := range slices.Concat([]int{0, 1, 40}, editLengthsOutOfRange) {
				checkGramFilter(t, s, s, q, limit, false)
			}
		}
		for q := 1; q <= impl.MaxGram; q++ {
			for _, limit := range editLengthsOutOfRange {
				checkGramFilter(t, s, s, q, limit, false)
			}
			for _, limit := range []int{0, 1, 40} {
				checkGramFilter(t, s, s, q, limit, true)
			}
		}
	}
	// Strings that are too long, even equal ones; the last one has 40 characters.
	for _, tooLong := range []string{long, strings.Repeat("ab", 100000), long[:39] + "é"} {
		for _, other := range []string{"", "a", long[:40], tooLong} {
			for _, limit := range []int{-1, 0, 1, 39, 40, 41, math.MinInt, math.MaxInt} {
				for q := range impl.MaxGram + 2 {
					checkGramFilter(t, tooLong, other, q, limit, false)
				}
			}
		}
	}
}

func checkPasses(t *testing.T, a, b string, limit int, want bool) {
	t.Helper()
	if got := impl.PassesFilters(a, b, limit); got != want {
		t.Errorf("PassesFilters(%q, %q, %d) = %v", a, b, limit, got)
	}
	if got := impl.PassesFilters(b, a, limit); got != want {
		t.Errorf("PassesFilters(%q, %q, %d) = %v", b, a, limit, got)
	}
}

// Each of the three filters drops a pair that the other two keep.
func TestPassesFiltersNeedsEachFilter(t *testing.T) {
	for _, c := range []struct {
		a, b                 string
		limit                int
		length, pairs, three bool
	}{
		{"abcd", "abcdef", 1, false, true, true},
		{"abcdefgh", "abcdefghijk", 2, false, true, true},
		{"", "a", 0, false, true, true},
		{"abcd", "efgh", 1, true, false, true},
		{"ab", "ba", 0, true, false, true},
		{"abcde", "fghia", 1, true, false, true},
		{"abcdef", "efcdab", 1, true, true, false},
		{"abcba", "babcb", 0, true, true, false},
		{"smith", "jones", 0, true, false, false},
		{"anna", "annaannaanna", 1, false, false, false},
		{"smith", "smiths", 1, true, true, true},
		// The filters may keep a pair that is not similar.
		{"abc", "xyz", 2, true, true, true},
		{"abcd", "abdc", 1, true, true, true},
	} {
		got := []bool{impl.LengthFilter(c.a, c.b, c.limit), impl.GramFilter(c.a, c.b, 2, c.limit), impl.GramFilter(c.a, c.b, 3, c.limit)}
		if want := []bool{c.length, c.pairs, c.three}; !slices.Equal(got, want) {
			t.Errorf("the filters of %q and %q with the limit %d return %v, want %v", c.a, c.b, c.limit, got, want)
		}
		checkPasses(t, c.a, c.b, c.limit, c.length && c.pairs && c.three)
	}
}

// Grams of one byte are no filter of PassesFilters.
func TestPassesFiltersComparesNoSingleBytes(t *testing.T) {
	a, b := "a", "b"
	if impl.GramFilter(a, b, 1, 0) {
		t.Error("GramFilter")
	}
	checkPasses(t, a, b, 0, true)
}

func TestPassesFiltersOutOfRange(t *testing.T) {
	long := strings.Repeat("a", 41)
	for _, s := range []string{"", "a", "anna", "\xff\x00", long[:40]} {
		for _, limit := range editLengthsOutOfRange {
			checkPasses(t, s, s, limit, false)
			checkPasses(t, s, "a", limit, false)
		}
		for limit := range impl.MaxEditText + 1 {
			checkPasses(t, s, s, limit, true)
			checkPasses(t, s, long, limit, false)
			checkPasses(t, long, long, limit, false)
			checkPasses(t, strings.Repeat(long, 1000), long, limit, false)
		}
	}
}

func checkSimilar(t *testing.T, l []string, s string, limit int, want ...int) {
	t.Helper()
	if got := impl.SimilarStrings(l, s, limit); !slices.Equal(got, want) {
		t.Errorf("SimilarStrings(%q, %q, %d) = %v, want %v", l, s, limit, got, want)
	}
}

func TestSimilarStringsValues(t *testing.T) {
	names := []string{"anna", "ann", "bob", "anne", "hanna", "", "anna", "ANNA", "bobby", "nana"}
	for limit, want := range map[int][]int{
		-1: nil,
		0:  {0, 6},
		1:  {0, 1, 3, 4, 6},
		2:  {0, 1, 3, 4, 6, 9},
		3:  {0, 1, 3, 4, 6, 9},
		4:  {0, 1, 2, 3, 4, 5, 6, 7, 9},
		5:  {0, 1, 2, 3, 4, 5, 6, 7, 8, 9},
		40: {0, 1, 2, 3, 4, 5, 6, 7, 8, 9},
	} {
		checkSimilar(t, names, "anna", limit, want...)
	}
	checkSimilar(t, names, "", 0, 5)
	checkSimilar(t, names, "", 3, 1, 2, 5)
	checkSimilar(t, names, "zzzzzzzzzz", 9)
	// Bytes are compared, not characters.
	checkSimilar(t, []string{"é", "e", "è", "\xa9", "\xc3"}, "é", 1, 0, 2, 3, 4)
	// The filters keep these, but they are not similar enough.
	checkSimilar(t, []string{"xyz", "abdc", "ba"}, "abc", 2, 1, 2)
	checkSimilar(t, []string{"b", "a"}, "a", 0, 1)
}

func TestSimilarStringsOfListsWithEqualElements(t *testing.T) {
	checkSimilar(t, []string{"a", "a", "b", "a"}, "a", 0, 0, 1, 3)
	checkSimilar(t, []string{"a", "a", "b", "a"}, "a", 1, 0, 1, 2, 3)
	checkSimilar(t, []string{"a", "a", "b", "a"}, "b", 0, 2)
	checkSimilar(t, []string{"", "", ""}, "", 0, 0, 1, 2)
	checkSimilar(t, []string{"", "", ""}, "ab", 1)
	many := impl.SimilarStrings(slices.Repeat([]string{"anna", "bob"}, 50000), "anne", 1)
	if len(many) != 50000 {
		t.Fatal(len(many))
	}
	for place, i := range many {
		if i != 2*place {
			t.Fatalf("%d at %d", i, place)
		}
	}
}

func TestSimilarStringsOfEmptyLists(t *testing.T) {
	for _, l := range [][]string{nil, {}, make([]string, 0, 4)} {
		for _, s := range []string{"", "a", strings.Repeat("a", 41)} {
			for _, limit := range []int{math.MinInt, -1, 0, 1, 40, 41, math.MaxInt} {
				checkSimilar(t, l, s, limit)
			}
		}
	}
}

// A distance is at most MaxEditText, so that a greater limit finds all strings
// that have a distance.
func TestSimilarStringsOfExtremeLimits(t *testing.T) {
	long := strings.Repeat("a", 41)
	l := []string{long[:40], "", long, strings.Repeat("b", 40), "b", long + long, long[:39] + "é", long[:39]}
	for _, s := range []string{"", "a", "xyz", long[:39], long[:40], strings.Repeat("\xff", 40)} {
		for _, limit := range []int{40, 41, 42, 1000, 1 << 32, math.MaxInt - 1, math.MaxInt} {
			checkSimilar(t, l, s, limit, 0, 1, 3, 4, 7)
		}
		for _, limit := range []int{-1, -2, -40, -41, math.MinInt, math.MinInt + 1} {
			checkSimilar(t, l, s, limit)
		}
	}
	checkSimilar(t, l, strings.Repeat("\xff", 40), 39)
	checkSimilar(t, l, long[:40], 0, 0)
	checkSimilar(t, l, long[:40], 1, 0, 7)
	// A string that is too long is not even similar to itself.
	for _, s := range []string{long, long + long, long[:39] + "é", strings.Repeat(long, 1000)} {
		for _, limit := range []int{-1, 0, 1, 40, 41, math.MaxInt} {
			checkSimilar(t, append(slices.Clone(l), s), s, limit)
		}
	}
}

func TestSimilarStringsFindsExactlyTheSimilarOnes(t *testing.T) {
	for _, l := range [][]string{filterStrings(), stringsOf("ab", 4), longTexts()[30:], longBytes()[30:]} {
		for _, s := range l {
			distances := make([]int, len(l))
			for i, other := range l {
				distances[i] = impl.EditDistance(other, s)
			}
			for limit := -1; limit <= impl.MaxEditText+1; limit++ {
				var want []int
				for i, d := range distances {
					if 0 <= d && d <= limit {
						want = append(want, i)
					}
				}
				got := impl.SimilarStrings(l, s, limit)
				if !slices.Equal(got, want) || !slices.IsSorted(got) {
					t.Errorf("SimilarStrings of %d strings, %q, %d = %v, want %v", len(l), s, limit, got, want)
				}
			}
		}
	}
}

func TestSimilarStringsSharesNoMemory(t *testing.T) {
	l := []string{"anna", "ann", "bob", "anne"}
	first, second := impl.SimilarStrings(l, "anna", 1), impl.SimilarStrings(l, "anna", 1)
	for i := range first[:cap(first)] {
		first[:cap(first)][i] = -1
	}
	if !slices.Equal(second, []int{0, 1, 3}) {
		t.Errorf("the indices became %v with another result", second)
	}
	checkSimilar(t, l, "anna", 1, 0, 1, 3)
}

func TestSimilarStringsLeavesTheListUnchanged(t *testing.T) {
	for _, list := range [][]string{nil, {"b", "a", "b", ""}, filterStrings()} {
		l, all := withSpare(list)
		want := slices.Clone(all)
		for _, limit := range []int{-1, 0, 1, 40, 41} {
			for _, s := range []string{"", "a", "anna", strings.Repeat("a", 41)} {
				impl.SimilarStrings(l, s, limit)
			}
		}
		if !slices.Equal(all, want) {
			t.Errorf("%q became %q", want, all)
		}
	}
}

func checkEditLimit(t *testing.T, lengthA, lengthB, score, want int) {
	t.Helper()
	if got := impl.EditLimit(lengthA, lengthB, score); got != want {
		t.Errorf("EditLimit(%d, %d, %d) = %d, want %d", lengthA, lengthB, score, got, want)
	}
	if got := impl.EditLimit(lengthB, lengthA, score); got != want {
		t.Errorf("EditLimit(%d, %d, %d) = %d, want %d", lengthB, lengthA, score, got, want)
	}
}

func TestEditLimitValues(t *testing.T) {
	for _, c := range []struct{ lengthA, lengthB, score, want int }{
		{10, 8, 700, 3},
		{10, 10, 701, 2},
		{10, 0, 699, 3},
		{3, 3, 666, 1},
		{3, 2, 667, 0},
		{3, 3, 334, 1},
		{3, 3, 333, 2},
		{7, 5, 857, 1},
		{7, 5, 858, 0},
		{0, 0, 500, 0},
		{0, 0, 0, 0},
		{0, 0, 1, 0},
		{0, 0, 1000, 0},
		{0, 1, 0, 1},
		{0, 1, 1, 0},
		{1, 1, 0, 1},
		{1, 1, 1, 0},
		{1, 1, 999, 0},
		{1, 1, 1000, 0},
		{40, 0, 0, 40},
		{40, 1, 1, 39},
		{40, 40, 25, 39},
		{40, 40, 26, 38},
		{40, 40, 975, 1},
		{40, 40, 976, 0},
		{40, 40, 999, 0},
		{40, 40, 1000, 0},
		// Scores and lengths that are out of range by one.
		{3, 3, 1001, -1},
		{3, 3, -1, -1},
		{0, 0, -1, -1},
		{0, 0, 1001, -1},
		{40, 40, -1, -1},
		{40, 40, 1001, -1},
		{-1, 3, 500, -1},
		{-1, -1, 0, -1},
		{-1, 40, 1000, -1},
		{-1, 41, 1, -1},
		{41, 3, 500, -1},
		{41, 41, 1000, -1},
		{41, 0, 0, -1},
		{41, 40, 999, -1},
	} {
		checkEditLimit(t, c.lengthA, c.lengthB, c.score, c.want)
	}
}

func TestEditLimitOutOfRange(t *testing.T) {
	for _, length := range slices.Concat([]int{0, 1, 2, 39, 40}, editLengthsOutOfRange) {
		for _, score := range slices.Concat([]int{0, 1, 500, 999, 1000}, elementsOutOfRange) {
			for _, bad := range editLengthsOutOfRange {
				checkEditLimit(t, length, bad, score, -1)
			}
		}
		for _, bad := range elementsOutOfRange {
			checkEditLimit(t, length, length, bad, -1)
			checkEditLimit(t, length, 7, bad, -1)
		}
	}
}

// The limit is the greatest distance that is worth the score, 1000*(m-d)/m.
func TestEditLimitIsTheGreatestDistance(t *testing.T) {
	for m := range impl.MaxEditText + 1 {
		for score := range 1001 {
			want := 0
			for want < m && 1000*(m-want-1) >= score*m {
				want++
			}
			for _, shorter := range []int{0, m / 2, m} {
				checkEditLimit(t, m, shorter, score, want)
			}
		}
	}
}

func TestEditLimitAgreesWithEditScore(t *testing.T) {
	var l []string
	for _, s := range slices.Concat(filterStrings(), longTexts()[60:], longBytes()[60:]) {
		if len(s) <= impl.MaxEditText {
			l = append(l, s)
		}
	}
	for _, a := range l {
		for _, b := range l {
			d, reached := impl.EditDistance(a, b), impl.EditScore(a, b)
			for score := range 1001 {
				if limit := impl.EditLimit(len(a), len(b), score); (reached >= score) != (d <= limit) {
					t.Fatalf("%q and %q have the distance %d and the score %d, but EditLimit for %d is %d", a, b, d, reached, score, limit)
				}
			}
		}
	}
}
