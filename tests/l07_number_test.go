package tests

import (
	"math"
	"slices"
	"strconv"
	"strings"
	"testing"

	"loop.example/g01923/impl"
)

// Integers that no range of the chapter contains.
var integersFarOutside = []int{math.MinInt, math.MinInt + 1, -10000, -9999, 10001, 1 << 32, math.MaxInt - 1, math.MaxInt}

var (
	numbersOutOfRange  = slices.Concat(integersFarOutside, []int{-2, -1, 10000})
	scalesOutOfRange   = slices.Concat(integersFarOutside, []int{-2, -1, 0, 10000})
	elementsOutOfRange = slices.Concat(integersFarOutside, []int{-2, -1, 1001, 1002, 9999})
)

// someNumbers are the numbers at the limits and others between them.
var someNumbers = []int{0, 1, 2, 3, 10, 999, 1000, 1980, 4999, 5000, 9990, 9997, 9998, 9999}

func TestMaxNumberValue(t *testing.T) {
	if impl.MaxNumber != 9999 {
		t.Error(impl.MaxNumber)
	}
}

func checkNumberScore(t *testing.T, a, b, scale, want int) {
	t.Helper()
	if got := impl.NumberScore(a, b, scale); got != want {
		t.Errorf("NumberScore(%d, %d, %d) = %d, want %d", a, b, scale, got, want)
	}
	if got := impl.NumberScore(b, a, scale); got != want {
		t.Errorf("NumberScore(%d, %d, %d) = %d, want %d", b, a, scale, got, want)
	}
}

func TestNumberScoreValues(t *testing.T) {
	for _, c := range []struct{ a, b, scale, want int }{
		{1980, 1980, 10, 1000},
		// Differences less than, equal to and greater than the scale.
		{1980, 1981, 10, 900},
		{1980, 1983, 10, 700},
		{1980, 1989, 10, 100},
		{1980, 1990, 10, 0},
		{1980, 1991, 10, 0},
		{1980, 3000, 10, 0},
		{5, 6, 1, 0},
		{5, 7, 1, 0},
		{5, 6, 2, 500},
		// Rounded down: 666.6, 333.3, 857.1, 142.8, 998.9 and 0.1.
		{0, 1, 3, 666},
		{0, 2, 3, 333},
		{7, 8, 7, 857},
		{7, 13, 7, 142},
		{20, 21, 999, 998},
		{0, 9998, 9999, 0},
		// The limits of numbers and scales.
		{0, 0, 1, 1000},
		{0, 0, 9999, 1000},
		{9999, 9999, 1, 1000},
		{9999, 9999, 9999, 1000},
		{0, 9999, 9999, 0},
		{0, 9999, 9998, 0},
		{0, 9999, 1, 0},
		{1, 9999, 9999, 0},
		{0, 9989, 9999, 1},
		{9998, 9999, 9999, 999},
		{0, 1, 9999, 999},
		{0, 1, 1, 0},
		{9998, 9999, 2, 500},
	} {
		checkNumberScore(t, c.a, c.b, c.scale, c.want)
	}
}

func TestNumberScoreOfEqualNumbers(t *testing.T) {
	for n := range impl.MaxNumber + 1 {
		for _, scale := range []int{1, 2, 10, 9998, 9999} {
			checkNumberScore(t, n, n, scale, 1000)
		}
	}
}

// The promise: the score is symmetric, lies within 0 to 1000, and is 1000 for
// equal numbers.
func TestNumberScoreIsRoundedDown(t *testing.T) {
	for _, a := range someNumbers {
		for _, b := range someNumbers {
			for scale := 1; scale <= impl.MaxNumber; scale++ {
				// A difference of the whole scale is no part of it any more.
				part := max(scale-max(a-b, b-a), 0)
				got := impl.NumberScore(a, b, scale)
				if got != impl.NumberScore(b, a, scale) {
					t.Fatalf("NumberScore(%d, %d, %d) is not symmetric", a, b, scale)
				}
				if got < 0 || got > 1000 || got*scale > 1000*part || (got+1)*scale <= 1000*part {
					t.Fatalf("NumberScore(%d, %d, %d) = %d", a, b, scale, got)
				}
			}
		}
	}
}

func TestNumberScoreOutOfRange(t *testing.T) {
	for _, bad := range numbersOutOfRange {
		for _, other := range slices.Concat(numbersOutOfRange, someNumbers) {
			for _, scale := range slices.Concat(scalesOutOfRange, []int{1, 10, 9999}) {
				checkNumberScore(t, bad, other, scale, 0)
			}
		}
	}
	for _, scale := range scalesOutOfRange {
		for _, a := range someNumbers {
			checkNumberScore(t, a, a, scale, 0)
			checkNumberScore(t, a, 0, scale, 0)
			checkNumberScore(t, a, 9999, scale, 0)
		}
	}
}

func TestParseYearOfEveryNumber(t *testing.T) {
	for n := -20000; n <= 20000; n++ {
		want := 0
		if 1000 <= n && n <= 9999 {
			want = n
		}
		if got := impl.ParseYear(strconv.Itoa(n)); got != want {
			t.Fatalf("ParseYear of %d = %d", n, got)
		}
	}
}

func TestParseYearValues(t *testing.T) {
	for s, want := range map[string]int{
		"999": 0, "1000": 1000, "1001": 1001, "1980": 1980, "9998": 9998, "9999": 9999, "10000": 0,
		"0": 0, "1": 0, "19801": 0, "999999999": 0, "1000000000": 0, "4294969276": 0, "18446744073709553596": 0,
		// A leading zero or a sign.
		"01980": 0, "0999": 0, "00001980": 0, "-1980": 0, "-0": 0, "+1980": 0, "--1980": 0,
		// No number.
		"": 0, " ": 0, "x": 0, "198x": 0, "x1980": 0, "1980x": 0, "1980 ": 0, " 1980": 0, "1 980": 0, "1,980": 0,
		"1980.0": 0, "1e3": 0, "0x7bc": 0, "1_980": 0, "1980\n": 0, "1980\x00": 0, "198\xff": 0, "１９８０": 0, "198٠": 0,
	} {
		if got := impl.ParseYear(s); got != want {
			t.Errorf("ParseYear(%q) = %d, want %d", s, got, want)
		}
	}
}

func TestParseYearAgreesWithParseInt(t *testing.T) {
	everyString("019-+ ", 6, func(s string) {
		want, _ := impl.ParseInt(s)
		if want < 1000 || want > 9999 {
			want = 0
		}
		if got := impl.ParseYear(s); got != want {
			t.Errorf("ParseYear(%q) = %d, want %d", s, got, want)
		}
	})
}

func TestDigitsOfValues(t *testing.T) {
	checkStrings(t, "DigitsOf", impl.DigitsOf, []stringCase{
		{"0123456789", "0123456789"},
		{"9876543210", "9876543210"},
		{"00", "00"},
		{"007", "007"},
		{"5", "5"},
		// No digits.
		{"", ""},
		{"abc XYZ", ""},
		{"+()-./:", ""},
		{"   ", ""},
		{"éñ日本\xff\x80", ""},
		// Marks and spaces.
		{"+1 (555) 12-34", "15551234"},
		{"555.12.34", "5551234"},
		{" 5 5 5 ", "555"},
		{"-5", "5"},
		{"'1'2'", "12"},
		{"1\t2\n3\x004", "1234"},
		{"a1b2c3", "123"},
		// Bytes beyond 127, among them digits of other alphabets.
		{"1é2", "12"},
		{"\xff1\x802\xc3", "12"},
		{"²３٤५5", "5"},
		{"\xb0\xb9\xe0\xb1", ""},
	})
}

func TestDigitsOfEveryByte(t *testing.T) {
	all := everyByte()
	if got := impl.DigitsOf(all); got != "0123456789" {
		t.Errorf("DigitsOf every byte = %q", got)
	}
	for i := range len(all) {
		want := ""
		if strings.Contains("0123456789", all[i:i+1]) {
			want = all[i : i+1]
		}
		checkStrings(t, "DigitsOf", impl.DigitsOf, []stringCase{
			{all[i : i+1], want}, {"4" + all[i:i+1] + "2", "4" + want + "2"},
		})
	}
}

func TestDigitsOfKeepsTheOrder(t *testing.T) {
	everyString("09a \xc3", 6, func(s string) {
		want := strings.NewReplacer("a", "", " ", "", "\xc3", "").Replace(s)
		if got := impl.DigitsOf(s); got != want {
			t.Errorf("DigitsOf(%q) = %q, want %q", s, got, want)
		}
	})
	long := strings.Repeat("12 (é) 3-", 10000)
	if got := impl.DigitsOf(long); got != strings.Repeat("123", 10000) {
		t.Errorf("DigitsOf of a long string has %d bytes", len(got))
	}
}

func checkPhoneScore(t *testing.T, a, b string, want int) {
	t.Helper()
	if got := impl.PhoneScore(a, b); got != want {
		t.Errorf("PhoneScore(%q, %q) = %d, want %d", a, b, got, want)
	}
	if got := impl.PhoneScore(b, a); got != want {
		t.Errorf("PhoneScore(%q, %q) = %d, want %d", b, a, got, want)
	}
}

func TestPhoneScoreValues(t *testing.T) {
	for _, c := range []struct {
		a, b string
		want int
	}{
		// Equal digits.
		{"5551234", "5551234", 1000},
		{"555 1234", "(555) 12-34", 1000},
		{"1234", "1-2-3-4", 1000},
		{"+1 (555) 12-34", "15551234", 1000},
		{"tel. 5551234", "5551234 é\xff", 1000},
		// Common suffixes of 3, 4, 6 and 7 digits, and of more.
		{"5551234", "5559234", 0},
		{"9234", "8234", 0},
		{"5551234", "5541234", 400},
		{"551234", "661234", 400},
		{"51234", "61234", 400},
		{"7551234", "8551234", 400},
		{"17551234", "18551234", 400},
		{"15551234", "25551234", 800},
		{"4915551234", "4925551234", 800},
		{"30155551234", "40155551234", 800},
		{"1234567890", "2234567890", 800},
		// A number that is a suffix of the other one.
		{"1234", "991234", 800},
		{"1234", "91234", 800},
		{"51234", "551234", 800},
		{"551234", "5551234", 800},
		{"5551234", "15551234", 800},
		{"5551234", "+1 555-1234", 800},
		{"1111", "11111", 800},
		// A prefix or another part is no suffix.
		{"1234", "12345", 0},
		{"1234", "123499", 0},
		{"5551234", "55512349", 0},
		{"1234", "1235", 0},
		{"5551234", "6661235", 0},
		{"12345678", "12345679", 0},
		// Fewer than 4 digits.
		{"", "", 0},
		{"", "1234", 0},
		{"x", "x", 0},
		{"1", "1", 0},
		{"12", "12", 0},
		{"123", "123", 0},
		{"123", "5550123", 0},
		{"234", "1234", 0},
		{"1 2 3", "123", 0},
		{"(123) abc", "1234123", 0},
	} {
		checkPhoneScore(t, c.a, c.b, c.want)
	}
}

func TestPhoneScoreOfEverySuffixLength(t *testing.T) {
	digits := "0123456789012345678901234567890"
	for n := range len(digits) + 1 {
		suffix := digits[len(digits)-n:]
		other, same := 0, 0
		if n >= 4 {
			other, same = 400, 1000
		}
		if n >= 7 {
			other = 800
		}
		checkPhoneScore(t, suffix, suffix, same)
		checkPhoneScore(t, "77"+suffix, "88"+suffix, other)
		checkPhoneScore(t, "7"+suffix, "888888888"+suffix, other)
		checkPhoneScore(t, "7"+suffix, suffix, min(same, 800))
		checkPhoneScore(t, "777777777"+suffix, suffix, min(same, 800))
	}
}

// phoneScoreByCuts finds the common suffix of digits by cutting the longer
// number and then both.
func phoneScoreByCuts(a, b string) int {
	if a == b && len(a) >= 4 {
		return 1000
	}
	cut := a
	for !strings.HasSuffix(b, cut) {
		cut = cut[1:]
	}
	switch {
	case len(cut) < 4:
		return 0
	case len(cut) >= 7 || cut == a || cut == b:
		return 800
	}
	return 400
}

// The promise: the score is symmetric, lies within 0 to 1000, and is 1000 for
// equal numbers, which have at least 4 digits.
func TestPhoneScoreOfEveryShortNumber(t *testing.T) {
	all := stringsOf("12", 8)
	for _, a := range all {
		for _, b := range all {
			checkPhoneScore(t, a, b, phoneScoreByCuts(a, b))
		}
	}
}

func TestPhoneScoreComparesDigitsAlone(t *testing.T) {
	all := stringsOf("1é -", 5)
	for _, a := range all {
		for _, b := range []string{"1111", "11111", "111", "21111", a} {
			want := phoneScoreByCuts(impl.DigitsOf(a), impl.DigitsOf(b))
			checkPhoneScore(t, a, b, want)
		}
	}
}

func TestPhoneScoreOfLongNumbers(t *testing.T) {
	long := strings.Repeat("123 ", 10000)
	checkPhoneScore(t, long, long, 1000)
	checkPhoneScore(t, long, "9"+long, 800)
	checkPhoneScore(t, long, "9"+long[1:], 800)
	checkPhoneScore(t, long, long+"9", 0)
	checkPhoneScore(t, long, "3123", 800)
	checkPhoneScore(t, long, "23", 0)
}

func checkCombined(t *testing.T, scores, weights []int, want int) {
	t.Helper()
	if got := impl.CombineScores(scores, weights); got != want {
		t.Errorf("CombineScores(%v, %v) = %d, want %d", scores, weights, got, want)
	}
}

func TestCombineScoresValues(t *testing.T) {
	for _, c := range []struct {
		scores, weights []int
		want            int
	}{
		// One element.
		{[]int{700}, []int{1}, 700},
		{[]int{700}, []int{3}, 700},
		{[]int{0}, []int{1}, 0},
		{[]int{1000}, []int{1}, 1000},
		{[]int{0}, []int{1000}, 0},
		{[]int{1000}, []int{1000}, 1000},
		// Several, among them without weight.
		{[]int{1000, 500}, []int{1, 1}, 750},
		{[]int{0, 1000}, []int{1000, 1000}, 500},
		{[]int{0, 1000}, []int{0, 1}, 1000},
		{[]int{0, 1000}, []int{1, 0}, 0},
		{[]int{200, 600, 1000}, []int{1, 2, 5}, 800},
		{[]int{1000, 1000, 1000}, []int{1000, 0, 1000}, 1000},
		{[]int{100, 200, 300, 400}, []int{4, 3, 2, 1}, 200},
		// Rounded down: 833.3, 666.6, 0.9 and 999.9.
		{[]int{1000, 500}, []int{2, 1}, 833},
		{[]int{1000, 0}, []int{2, 1}, 666},
		{[]int{0, 1}, []int{1, 9}, 0},
		{[]int{1000, 999}, []int{999, 1}, 999},
		{[]int{1, 1, 0}, []int{1, 1, 1}, 0},
	} {
		checkCombined(t, c.scores, c.weights, c.want)
	}
}

func TestCombineScoresOfWeightsWhoseSumIsZero(t *testing.T) {
	for _, scores := range [][]int{{0}, {1}, {1000}, {0, 1000}, {1000, 1000, 1000}, make([]int, 50)} {
		checkCombined(t, scores, make([]int, len(scores)), 0)
	}
	// These would sum to 0 if negative weights were valid.
	checkCombined(t, []int{1000, 1000}, []int{1, -1}, 0)
	checkCombined(t, []int{0, 1000}, []int{-1000, 1000}, 0)
}

func TestCombineScoresOfListsOfDifferentLengths(t *testing.T) {
	empties := [][]int{nil, {}, make([]int, 0, 4), []int{1000}[:0]}
	for _, empty := range empties {
		for _, other := range empties {
			checkCombined(t, empty, other, 0)
		}
	}
	lists := [][]int{nil, {1000}, {1000, 1000}, {1000, 1000, 1000}, slices.Repeat([]int{1000}, 100)}
	for i, scores := range lists {
		for j, weights := range lists {
			if i != j {
				checkCombined(t, scores, weights, 0)
			}
		}
	}
	checkCombined(t, []int{1000, 0}, []int{1}, 0)
	checkCombined(t, []int{1000}, []int{1, 0}, 0)
}

func TestCombineScoresOutOfRange(t *testing.T) {
	for _, bad := range elementsOutOfRange {
		for place := range 3 {
			valid := []int{1000, 500, 1}
			invalid := slices.Clone(valid)
			invalid[place] = bad
			checkCombined(t, invalid, valid, 0)
			checkCombined(t, valid, invalid, 0)
			checkCombined(t, invalid, invalid, 0)
			// An invalid score counts even if its weight is 0.
			weights := []int{1, 1, 1}
			weights[place] = 0
			checkCombined(t, invalid, weights, 0)
			checkCombined(t, weights, invalid, 0)
		}
		checkCombined(t, []int{bad}, []int{1}, 0)
		checkCombined(t, []int{1}, []int{bad}, 0)
		checkCombined(t, []int{bad, 1000}, []int{bad, 1000}, 0)
	}
}

// everyValidPair calls visit with every two lists of the same length, up to 3,
// of some scores and weights that are not all 0.
func everyValidPair(visit func(scores, weights []int)) {
	values := []int{0, 1, 2, 333, 999, 1000}
	lists := [][]int{{}}
	for range 3 {
		var longer [][]int
		for _, list := range lists {
			for _, value := range values {
				longer = append(longer, append(slices.Clone(list), value))
			}
		}
		lists = longer
		for _, scores := range lists {
			for _, weights := range lists {
				if slices.Max(weights) > 0 {
					visit(scores, weights)
				}
			}
		}
	}
}

// The promise: the answer lies between the least and the greatest score, and so
// within 0 to 1000, and is 1000 if all scores are.
func TestCombineScoresLiesBetweenTheScores(t *testing.T) {
	everyValidPair(func(scores, weights []int) {
		got := impl.CombineScores(scores, weights)
		if got < slices.Min(scores) || got > slices.Max(scores) {
			t.Errorf("CombineScores(%v, %v) = %d", scores, weights, got)
		}
	})
}

func TestCombineScoresIsRoundedDown(t *testing.T) {
	everyValidPair(func(scores, weights []int) {
		sum, whole := 0, 0
		for i := range scores {
			sum += scores[i] * weights[i]
			whole += weights[i]
		}
		got := impl.CombineScores(scores, weights)
		if got*whole > sum || (got+1)*whole <= sum {
			t.Errorf("CombineScores(%v, %v) = %d, which is not %d/%d rounded down", scores, weights, got, sum, whole)
		}
	})
}

func TestCombineScoresOfLongLists(t *testing.T) {
	scores, weights := slices.Repeat([]int{1000, 0, 500}, 100000), slices.Repeat([]int{1000, 1000, 0}, 100000)
	checkLong := func(name string, scores, weights []int, want int) {
		t.Helper()
		if got := impl.CombineScores(scores, weights); got != want {
			t.Errorf("CombineScores of %s = %d, want %d", name, got, want)
		}
	}
	checkLong("long lists", scores, weights, 500)
	checkLong("equal scores", weights[:2], weights[:2], 1000)
	checkLong("long lists of different lengths", scores, weights[1:], 0)
	weights[len(weights)-1] = 1001
	checkLong("long lists with an invalid last weight", scores, weights, 0)
	checkLong("long lists with an invalid last score", weights, scores, 0)
}

func TestCombineScoresArgumentsAreUnchanged(t *testing.T) {
	for _, c := range [][2][]int{{{1000, 500}, {2, 1}}, {{3, 1, 2}, {0, 0, 0}}, {{1, -1}, {1001, 5}}, {{7}, {3, 4}}} {
		// The places behind each list are a part of the argument, too.
		scores, weights := append(slices.Clone(c[0]), 77, 78), append(slices.Clone(c[1]), 79, 80)
		wantScores, wantWeights := slices.Clone(scores), slices.Clone(weights)
		impl.CombineScores(scores[:len(c[0])], weights[:len(c[1])])
		if !slices.Equal(scores, wantScores) || !slices.Equal(weights, wantWeights) {
			t.Errorf("%v and %v became %v and %v", wantScores, wantWeights, scores, weights)
		}
	}
}
