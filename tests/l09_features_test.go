package tests

import (
	"fmt"
	"math"
	"regexp"
	"slices"
	"strings"
	"testing"

	"loop.example/g01923/impl"
)

// withoutToken are texts that Normalize makes empty.
var withoutToken = []string{"", " ", "   ", "'", "''", "-", ".", "' - '", "., !?", "~@#", strings.Repeat("'", 40), strings.Repeat(" ", 40)}

// notYears are texts that ParseYear does not read.
var notYears = []string{
	"", " ", "0", "1", "980", "999", "0999", "01980", "10000", "19800", "198", "+1980", "-1980", " 1980", "1980 ",
	"19 80", "19x0", "1980.", "1980.0", "1e3", "0x7bc", "unknown", "1980 1981", "99999999999", "-1", "~",
}

// someNames, someCities, someYears and somePhones are the fields of someRecords.
var (
	someNames = []string{
		"Anna Smith", "anna  SMITH.", "Smith, Ann", "Ann Smyth", "O'Neil", "ONEIL", "o neil", "Robert Rupert Lee 9",
		"Lee 7", "9", "4u 9", "", " '-' ", "x", "anna anna", strings.Repeat("Ab ", 13) + "c", strings.Repeat("z", 40),
	}
	someCities = []string{"Paris", "paris", "PARIS,", "Pari", "New York", "york new", "", "'", "75", strings.Repeat("y", 40)}
	someYears  = []string{"1980", "1981", "1989", "1990", "1991", "2000", "1000", "9999", "", "999", "19x0"}
	somePhones = []string{"555 1234", "+1 555-1234", "1234", "(555) 12 34", "123", "", "none", "999 1234", "+1 999 555 1234"}
)

func recordWith(fields ...string) impl.Record {
	return impl.Record{Source: 0, Key: 1, Version: 1, Fields: fields}
}

// someRecords have every element of someNames with every one of someYears, and
// all of someFields.
func someRecords() []impl.Record {
	var all []impl.Record
	for i, name := range someNames {
		for j, year := range someYears {
			city, phone := someCities[(i+j)%len(someCities)], somePhones[(i+2*j)%len(somePhones)]
			all = append(all, impl.Record{Source: i % 4, Key: 1 + i, Version: 1 + j, Fields: []string{name, city, year, phone}})
		}
	}
	for _, fields := range someFields() {
		all = append(all, recordWith(fields...))
	}
	return all
}

func TestFeatureConstants(t *testing.T) {
	got := []int{impl.FeatName, impl.FeatTokens, impl.FeatSound, impl.FeatCity, impl.FeatYear, impl.FeatPhone, impl.FeatureCount}
	if !slices.Equal(got, []int{0, 1, 2, 3, 4, 5, 6}) {
		t.Error(got)
	}
}

// checkPair checks the features of two records in both orders.
func checkPair(t *testing.T, a, b impl.Record, want ...int) {
	t.Helper()
	if got := impl.PairFeatures(a, b); !slices.Equal(got, want) {
		t.Errorf("PairFeatures(%#v, %#v) = %v, want %v", a, b, got, want)
	}
	if got := impl.PairFeatures(b, a); !slices.Equal(got, want) {
		t.Errorf("PairFeatures(%#v, %#v) = %v, want %v", b, a, got, want)
	}
}

func TestPairFeaturesValues(t *testing.T) {
	anna := []string{"Anna Smith", "Paris", "1980", "555 1234"}
	for _, c := range []struct{ fields, want string }{
		{"Anna Smith|Paris|1980|555 1234", "[1000 1000 1000 1000 1000 1000]"},
		{"ANNA  smith!|paris.|1980|(555) 12-34", "[1000 1000 1000 1000 1000 1000]"},
		{"Smith, Ann|paris|1983|+1 555-1234", "[100 333 1000 1000 700 800]"},
		{"Ann Smith|Parma|1979|999 1234", "[900 333 1000 600 900 400]"},
		{"Anna|Lyon|1990|555", "[400 500 500 0 0 0]"},
		{"Bob Lee|Paris|1989|1234", "[100 0 0 1000 100 800]"},
		{"|||", "[0 0 0 0 0 0]"},
	} {
		fields := strings.Split(c.fields, "|")
		if got := fmt.Sprint(impl.PairFeatures(recordWith(anna...), recordWith(fields...))); got != c.want {
			t.Errorf("the features of %q and %q are %s, want %s", anna, fields, got, c.want)
		}
		if got := fmt.Sprint(impl.PairFeatures(recordWith(fields...), recordWith(anna...))); got != c.want {
			t.Errorf("the features of %q and %q are %s, want %s", fields, anna, got, c.want)
		}
	}
}

// checkTexts checks the scores of two names, and of two cities, in records that
// have no other field.
func checkTexts(t *testing.T, a, b string, edit, tokens, sound int) {
	t.Helper()
	checkPair(t, recordWith(a, "", "", ""), recordWith(b, "", "", ""), edit, tokens, sound, 0, 0, 0)
	checkPair(t, recordWith("", a, "", ""), recordWith("", b, "", ""), 0, 0, 0, edit, 0, 0)
}

func TestPairFeaturesOfTexts(t *testing.T) {
	long := strings.Repeat("x", 39)
	for _, c := range []struct {
		a, b                string
		edit, tokens, sound int
	}{
		{"Smith", "Smyth", 800, 0, 1000},
		{"Robert", "Rupert", 666, 0, 1000},
		{"Robert", "Rubin", 333, 0, 0},
		{"a", "b", 0, 0, 0},
		{"a", "a", 1000, 1000, 1000},
		{"abc", "abd", 666, 0, 0},
		{"abc", "abcd", 750, 0, 0},
		{long + "x", long + "y", 975, 0, 1000},
		{long + "x", "a", 0, 0, 0},
		// Other words, and the same ones in another order or repeated.
		{"Anna Smith", "Anna Jones", 500, 333, 333},
		{"Anna Smith", "Anna", 400, 500, 500},
		{"b a", "a b", 333, 1000, 1000},
		{"anna", "anna anna", 444, 1000, 1000},
		{"a b c", "a b d", 800, 500, 500},
		// Only case, marks or spaces differ.
		{"Anna Smith", "aNNA sMITH", 1000, 1000, 1000},
		{"O'Neil", "ONEIL", 1000, 1000, 1000},
		{"Anna-Maria  Smith", " anna maria smith.", 1000, 1000, 1000},
		{"(x)", "X", 1000, 1000, 1000},
		{"a=1", "A 1", 1000, 1000, 1000},
		// A space is a mark between words, but an apostrophe is not.
		{"O'Neil", "O Neil", 833, 0, 0},
		// Some or all words have no phonetic key.
		{"Lee 9", "Lee 7", 800, 333, 1000},
		{"9", "9", 1000, 1000, 0},
		{"9 4u", "4u 9", 0, 1000, 0},
		{"r2d2", "R2D2", 1000, 1000, 0},
		{"9", "Lee", 0, 0, 0},
		{"Lee 9", "9", 200, 500, 0},
	} {
		checkTexts(t, c.a, c.b, c.edit, c.tokens, c.sound)
	}
}

func TestPairFeaturesOfTextsWithoutAToken(t *testing.T) {
	for _, a := range withoutToken {
		for _, b := range slices.Concat(withoutToken, someNames, someCities) {
			checkTexts(t, a, b, 0, 0, 0)
		}
	}
}

func checkYears(t *testing.T, a, b string, want int) {
	t.Helper()
	checkPair(t, recordWith("", "", a, ""), recordWith("", "", b, ""), 0, 0, 0, 0, want, 0)
}

func TestPairFeaturesOfYears(t *testing.T) {
	// Differences that are less than the scale, equal to it and greater.
	for difference, want := range []int{1000, 900, 800, 700, 600, 500, 400, 300, 200, 100, 0, 0, 0, 0, 0} {
		for _, year := range []int{1000, 1001, 1980, 1995, 5000, 9985} {
			checkYears(t, fmt.Sprint(year), fmt.Sprint(year+difference), want)
		}
	}
	checkYears(t, "9999", "9999", 1000)
	checkYears(t, "9990", "9999", 100)
	checkYears(t, "9989", "9999", 0)
	checkYears(t, "1000", "9999", 0)
	checkYears(t, "1980", "2080", 0)
	checkYears(t, "1980", "8091", 0)
}

// The edge case of the chapter: a record without a year.
func TestPairFeaturesWithoutAYear(t *testing.T) {
	for _, a := range notYears {
		for _, b := range slices.Concat(notYears, someYears) {
			checkYears(t, a, b, 0)
		}
		anna := recordWith("Anna", "Paris", "1980", "555 1234")
		other := recordWith("Anna", "Paris", a, "555 1234")
		checkPair(t, anna, other, 1000, 1000, 1000, 1000, 0, 1000)
		checkPair(t, other, other, 1000, 1000, 1000, 1000, 0, 1000)
	}
}

func TestPairFeaturesOfPhones(t *testing.T) {
	for _, c := range []struct {
		a, b string
		want int
	}{
		{"555 1234", "555 1234", 1000},
		{"555 1234", "(555) 12-34", 1000},
		{"x1234", "1234", 1000},
		{"555 1234", "+1 555 1234", 800},
		{"91234", "1234", 800},
		{"99 345 678 901", "12 345 678 901", 800},
		{"99 555 1234", "88 555 1234", 800},
		{"9 551 234", "8 551 234", 400},
		{"999 1234", "555 1234", 400},
		{"999 1234", "999 1235", 0},
		{"123", "123", 0},
		{"555 1234", "234", 0},
		{"", "", 0},
		{"", "555 1234", 0},
		{"none", "none", 0},
		{"none", "555 1234", 0},
	} {
		checkPair(t, recordWith("", "", "", c.a), recordWith("", "", "", c.b), 0, 0, 0, 0, 0, c.want)
	}
}

// fieldOfFeature is the field that each feature compares.
var fieldOfFeature = []int{0, 0, 0, 1, 2, 3}

// Each field empty in turn, some of them, and all of them empty, on one side
// and on both.
func TestPairFeaturesOfEmptyFields(t *testing.T) {
	const all = 1 << impl.FieldCount
	emptied := func(empty int) impl.Record {
		fields := []string{"Anna Smith", "Paris", "1980", "555 1234"}
		for place := range fields {
			if empty>>place&1 == 1 {
				fields[place] = ""
			}
		}
		return recordWith(fields...)
	}
	for a := range all {
		for b := range all {
			want := make([]int, impl.FeatureCount)
			for feature, field := range fieldOfFeature {
				if (a|b)>>field&1 == 0 {
					want[feature] = 1000
				}
			}
			checkPair(t, emptied(a), emptied(b), want...)
		}
	}
}

// featuresInSteps computes the features as the chapter words them.
func featuresInSteps(a, b impl.Record) []int {
	want := make([]int, 6)
	for feature, field := range map[int]int{impl.FeatName: 0, impl.FeatCity: 1} {
		if x, y := impl.Normalize(a.Fields[field]), impl.Normalize(b.Fields[field]); x != "" && y != "" {
			want[feature] = impl.EditScore(x, y)
		}
	}
	if x, y := impl.Tokens(a.Fields[0]), impl.Tokens(b.Fields[0]); len(x) > 0 && len(y) > 0 {
		want[impl.FeatTokens] = impl.Jaccard(x, y)
	}
	if x, y := impl.SoundKeys(a.Fields[0]), impl.SoundKeys(b.Fields[0]); len(x) > 0 && len(y) > 0 {
		want[impl.FeatSound] = impl.Jaccard(x, y)
	}
	if x, y := impl.ParseYear(a.Fields[2]), impl.ParseYear(b.Fields[2]); x != 0 && y != 0 {
		want[impl.FeatYear] = impl.NumberScore(x, y, 10)
	}
	want[impl.FeatPhone] = impl.PhoneScore(a.Fields[3], b.Fields[3])
	return want
}

// The promise: similarities are symmetric and lie within 0 to 1000.
func TestPairFeaturesOfAllPairs(t *testing.T) {
	all := someRecords()
	for _, a := range all {
		for _, b := range all {
			got := impl.PairFeatures(a, b)
			if len(got) != impl.FeatureCount || slices.Min(got) < 0 || slices.Max(got) > 1000 || !impl.IsFeatureVector(got) {
				t.Fatalf("PairFeatures(%#v, %#v) = %v", a, b, got)
			}
			if other := impl.PairFeatures(b, a); !slices.Equal(got, other) {
				t.Fatalf("PairFeatures(%#v, %#v) = %v, and in the other order %v", a, b, got, other)
			}
			if want := featuresInSteps(a, b); !slices.Equal(got, want) {
				t.Fatalf("PairFeatures(%#v, %#v) = %v, want %v", a, b, got, want)
			}
		}
	}
}

// The promise: similarities are 1000 for equal non-empty arguments.
func TestPairFeaturesOfEachRecordWithItself(t *testing.T) {
	for _, r := range someRecords() {
		isPresent := []bool{
			impl.Normalize(r.Fields[0]) != "",
			len(impl.Tokens(r.Fields[0])) > 0,
			len(impl.SoundKeys(r.Fields[0])) > 0,
			impl.Normalize(r.Fields[1]) != "",
			impl.ParseYear(r.Fields[2]) != 0,
			len(impl.DigitsOf(r.Fields[3])) >= 4,
		}
		want := make([]int, impl.FeatureCount)
		for feature := range want {
			if isPresent[feature] {
				want[feature] = 1000
			}
		}
		same := r
		same.Fields = slices.Clone(r.Fields)
		checkPair(t, r, same, want...)
	}
}

// A feature depends on its field alone.
func TestPairFeaturesDependOnTheirFields(t *testing.T) {
	a, b := recordWith("Anna Smith", "Paris", "1980", "555 1234"), recordWith("Ann Smith", "Parma", "1983", "999 1234")
	for i, other := range someRecords() {
		r := b
		r.Source, r.Key, r.Version = i%4, 1+i%99, 1+i%999
		checkPair(t, a, r, 900, 333, 1000, 600, 700, 400)
		for changed := range impl.FieldCount {
			r.Fields = slices.Clone(b.Fields)
			r.Fields[changed] = other.Fields[changed]
			got, want := impl.PairFeatures(a, r), impl.PairFeatures(a, b)
			for feature, field := range fieldOfFeature {
				if field != changed && got[feature] != want[feature] {
					t.Errorf("feature %d of %q became %d with field %d: %q", feature, b.Fields, got[feature], changed, r.Fields)
				}
			}
		}
	}
}

func TestPairFeaturesOfInvalidRecords(t *testing.T) {
	valid := []impl.Record{recordWith("", "", "", ""), recordWith("Ann", "Paris", "1980", "555 1234")}
	invalid := invalidRecords()
	for i, a := range invalid {
		for _, b := range valid {
			checkPair(t, a, b)
		}
		checkPair(t, a, a)
		checkPair(t, a, invalid[(i+1)%len(invalid)])
		checkPair(t, a, invalid[len(invalid)-1-i])
	}
}

func TestPairFeaturesSharesNoMemory(t *testing.T) {
	a, b := recordWith("Anna Smith", "Paris", "1980", "555 1234"), recordWith("Ann Smith", "Parma", "1983", "999 1234")
	want := []int{900, 333, 1000, 600, 700, 400}
	first, second := impl.PairFeatures(a, b), impl.PairFeatures(a, b)
	for i := range first[:cap(first)] {
		first[:cap(first)][i] = -1
	}
	if !slices.Equal(second, want) {
		t.Errorf("the features became %v with another result", second)
	}
	checkPair(t, a, b, want...)
}

// someVectors are feature vectors with each score of some at each place, with
// each combination of 0 and 1000, and those of pairs of records.
func someVectors() [][]int {
	var all [][]int
	for _, others := range []int{0, 7, 50, 500, 1000} {
		for place := range impl.FeatureCount {
			for _, score := range []int{0, 1, 2, 9, 10, 11, 99, 100, 101, 998, 999, 1000} {
				f := slices.Repeat([]int{others}, impl.FeatureCount)
				f[place] = score
				all = append(all, f)
			}
		}
	}
	for choice := range 1 << impl.FeatureCount {
		f := make([]int, impl.FeatureCount)
		for place := range f {
			f[place] = choice >> place & 1 * 1000
		}
		all = append(all, f)
	}
	records := someRecords()
	for i, a := range records {
		all = append(all, impl.PairFeatures(a, records[(7*i+1)%len(records)]))
	}
	return append(all, []int{0, 1, 22, 333, 444, 1000}, []int{1, 2, 3, 4, 5, 6})
}

// badVectors have another length than a feature vector or an element out of range.
func badVectors() [][]int {
	bad := [][]int{nil, {}, make([]int, 0, 6), {0, 0, 0, 0, 0, 0, 1001}, slices.Repeat([]int{1000}, 100000)}
	for _, n := range []int{1, 2, 3, 4, 5, 7, 8, 11, 12, 18} {
		for _, score := range []int{0, 1, 500, 1000} {
			bad = append(bad, slices.Repeat([]int{score}, n))
		}
	}
	for place := range impl.FeatureCount {
		for _, element := range elementsOutOfRange {
			for _, others := range []int{0, 500, 1000} {
				f := slices.Repeat([]int{others}, impl.FeatureCount)
				f[place] = element
				bad = append(bad, f)
			}
		}
	}
	for _, element := range elementsOutOfRange {
		bad = append(bad, slices.Repeat([]int{element}, impl.FeatureCount))
	}
	return bad
}

func TestIsFeatureVector(t *testing.T) {
	for _, f := range someVectors() {
		if !impl.IsFeatureVector(f) {
			t.Errorf("IsFeatureVector(%v) = false", f)
		}
	}
	for _, f := range badVectors() {
		if impl.IsFeatureVector(f) {
			t.Errorf("IsFeatureVector of %d elements, %v, = true", len(f), f[:min(len(f), 7)])
		}
	}
}

func TestIsFeatureVectorOfEachElement(t *testing.T) {
	for place := range impl.FeatureCount {
		f := []int{0, 1000, 500, 1, 999, 0}
		for element := -1500; element <= 2500; element++ {
			f[place] = element
			if got := impl.IsFeatureVector(f); got != (0 <= element && element <= 1000) {
				t.Fatalf("IsFeatureVector(%v) = %v", f, got)
			}
		}
	}
}

func checkDominates(t *testing.T, a, b []int, want bool) {
	t.Helper()
	if got := impl.DominatesFeatures(a, b); got != want {
		t.Errorf("DominatesFeatures(%v, %v) = %v", a, b, got)
	}
}

func TestDominatesFeaturesValues(t *testing.T) {
	zeros, thousands := make([]int, 6), slices.Repeat([]int{1000}, 6)
	checkDominates(t, thousands, zeros, true)
	checkDominates(t, zeros, thousands, false)
	// Neither of them dominates the other one.
	checkDominates(t, []int{1000, 0, 0, 0, 0, 0}, []int{0, 1, 0, 0, 0, 0}, false)
	checkDominates(t, []int{0, 1, 0, 0, 0, 0}, []int{1000, 0, 0, 0, 0, 0}, false)
	checkDominates(t, []int{6, 5, 4, 3, 2, 1}, []int{1, 2, 3, 4, 5, 6}, false)
	checkDominates(t, []int{1, 2, 3, 4, 5, 6}, []int{6, 5, 4, 3, 2, 1}, false)
	for _, f := range someVectors() {
		checkDominates(t, f, slices.Clone(f), true)
		checkDominates(t, thousands, f, true)
		checkDominates(t, f, zeros, true)
		// Vectors that differ at one place.
		for place, score := range f {
			if score == 1000 {
				continue
			}
			greater := slices.Clone(f)
			greater[place]++
			checkDominates(t, greater, f, true)
			checkDominates(t, f, greater, false)
		}
	}
}

func TestDominatesFeaturesOfAllPairs(t *testing.T) {
	vectors := [][]int{{}}
	for range impl.FeatureCount {
		var longer [][]int
		for _, f := range vectors {
			for _, score := range []int{0, 999, 1000} {
				longer = append(longer, append(slices.Clone(f), score))
			}
		}
		vectors = longer
	}
	greatest := make([]int, impl.FeatureCount)
	for _, a := range vectors {
		for _, b := range vectors {
			for i := range greatest {
				greatest[i] = max(a[i], b[i])
			}
			checkDominates(t, a, b, slices.Equal(greatest, a))
		}
	}
}

func TestDominatesFeaturesOfListsThatAreNoVectors(t *testing.T) {
	zeros, thousands := make([]int, 6), slices.Repeat([]int{1000}, 6)
	bad := badVectors()
	for i, f := range bad {
		// A message is not to hold a list of any length.
		for _, other := range [][]int{zeros, thousands, f, bad[(i+1)%len(bad)], bad[len(bad)-1-i]} {
			if impl.DominatesFeatures(f, other) || impl.DominatesFeatures(other, f) {
				t.Errorf("one of %d and %d elements, %v, dominates the other", len(f), len(other), f[:min(len(f), 7)])
			}
		}
	}
}

func TestFeatureName(t *testing.T) {
	names := []string{"name", "tokens", "sound", "city", "year", "phone"}
	for feature := -1000; feature <= 1000; feature++ {
		want := ""
		if 0 <= feature && feature < len(names) {
			want = names[feature]
		}
		if got := impl.FeatureName(feature); got != want {
			t.Errorf("FeatureName(%d) = %q, want %q", feature, got, want)
		}
	}
	for _, feature := range []int{math.MinInt, math.MinInt + 1, math.MaxInt, math.MaxInt - 1, 1 << 32, 1<<32 + 5, -1 << 32, 256} {
		if got := impl.FeatureName(feature); got != "" {
			t.Errorf("FeatureName(%d) = %q", feature, got)
		}
	}
}

func featuresText(f []int) string {
	return fmt.Sprintf("name=%d tokens=%d sound=%d city=%d year=%d phone=%d", f[0], f[1], f[2], f[3], f[4], f[5])
}

func checkFeatures(t *testing.T, f []int) {
	t.Helper()
	if got := impl.FormatFeatures(f); got != featuresText(f) {
		t.Errorf("FormatFeatures(%v) = %q", f, got)
	}
	got, ok := impl.ParseFeatures(featuresText(f))
	if !ok || len(got) != impl.FeatureCount {
		t.Fatalf("ParseFeatures(%q) = %v, %v", featuresText(f), got, ok)
	}
	for i := range f {
		if got[i] != f[i] {
			t.Errorf("ParseFeatures(%q) has %d at %d", featuresText(f), got[i], i)
		}
	}
}

func TestFormatFeaturesValues(t *testing.T) {
	for want, f := range map[string][]int{
		"name=0 tokens=0 sound=0 city=0 year=0 phone=0":                   {0, 0, 0, 0, 0, 0},
		"name=1000 tokens=1000 sound=1000 city=1000 year=1000 phone=1000": {1000, 1000, 1000, 1000, 1000, 1000},
		"name=1 tokens=22 sound=333 city=1000 year=0 phone=800":           {1, 22, 333, 1000, 0, 800},
		"name=200 tokens=333 sound=1000 city=1000 year=700 phone=800":     {200, 333, 1000, 1000, 700, 800},
		"name=999 tokens=100 sound=10 city=9 year=90 phone=909":           {999, 100, 10, 9, 90, 909},
	} {
		if got := impl.FormatFeatures(f); got != want {
			t.Errorf("FormatFeatures(%v) = %q, want %q", f, got, want)
		}
	}
}

// The promise: feature vectors can be parsed from their string format.
func TestParseFeaturesReadsEveryFormat(t *testing.T) {
	for _, f := range someVectors() {
		checkFeatures(t, f)
	}
	for place := range impl.FeatureCount {
		for score := range 1001 {
			f := []int{1000, 0, 999, 10, 1, 505}
			f[place] = score
			checkFeatures(t, f)
		}
	}
}

func TestFormatFeaturesOfListsThatAreNoVectors(t *testing.T) {
	for _, f := range badVectors() {
		if got := impl.FormatFeatures(f); got != "" {
			t.Errorf("FormatFeatures of %d elements, %v, = %q", len(f), f[:min(len(f), 7)], got)
		}
	}
}

func checkNoFeatures(t *testing.T, s string) {
	t.Helper()
	if f, ok := impl.ParseFeatures(s); ok || len(f) != 0 {
		t.Errorf("ParseFeatures(%q) = %v, %v", s, f, ok)
	}
}

func TestParseFeaturesRejects(t *testing.T) {
	for _, s := range []string{
		"", " ", "=", "name", "name=", "name=0", "0 0 0 0 0 0", "= = = = = =", "=0 =0 =0 =0 =0 =0", "     ",
		// A feature too few or too many.
		"name=0 tokens=0 sound=0 city=0 year=0", "tokens=0 sound=0 city=0 year=0 phone=0",
		"name=0 tokens=0 city=0 year=0 phone=0", "name=0 tokens=0 sound=0 city=0 year=0 phone=0 phone=0",
		"name=0 name=0 tokens=0 sound=0 city=0 year=0 phone=0", "name=0 tokens=0 sound=0 city=0 year=0 phone=0 =0",
		"name=0 tokens=0 sound=0 city=0 year=0 phone=0 x=0", "name=0 tokens=0 sound=0 city=0 year=0 phone=0 0",
		"name=0 tokens=0 sound=0 city=0 year=0 name=0", "name=0 tokens=0 sound=0 city=0 year=0 ",
		"name=0 tokens=0 sound=0 city=0 year=0 phone=0 name=0 tokens=0 sound=0 city=0 year=0 phone=0",
		// Other separators.
		"name=0,tokens=0,sound=0,city=0,year=0,phone=0", "name=0\ttokens=0 sound=0 city=0 year=0 phone=0",
		"name=0tokens=0 sound=0 city=0 year=0 phone=0", "name=0\u00a0tokens=0 sound=0 city=0 year=0 phone=0",
		"name:0 tokens:0 sound:0 city:0 year:0 phone:0", "name>=0 tokens>=0 sound>=0 city>=0 year>=0 phone>=0",
		// Something around a format.
		"[name=0 tokens=0 sound=0 city=0 year=0 phone=0]", "name=0 tokens=0 sound=0 city=0 year=0 phone=0\n",
		"\nname=0 tokens=0 sound=0 city=0 year=0 phone=0", "name=0 tokens=0 sound=0 city=0 year=0 phone=0\x00",
		strings.Repeat("name=0 ", 100000), strings.Repeat(" ", 100000), strings.Repeat("=", 100000), everyByte(),
		"name=0 tokens=0 sound=0 city=0 year=0 phone=" + strings.Repeat("0", 100000),
		"name=0 tokens=0 sound=0 city=0 year=0 phone=0" + strings.Repeat(" ", 100000),
	} {
		checkNoFeatures(t, s)
	}
}

// A format with one part of one feature replaced is none.
func TestParseFeaturesRejectsBadParts(t *testing.T) {
	names := []string{"name", "tokens", "sound", "city", "year", "phone"}
	badScores := []string{
		"", "00", "01", "007", "0999", "01000", "+0", "+1", "-0", "-1", "-1000", "1001", "1002", "9999", "10000", "x", "0x1",
		"1.0", "1e2", "1_0", "0\x00", "１", "=0", "0=", "0=0", "999999999", "1000000000", "4294967296", "18446744073709551616",
	}
	for place, name := range names {
		join := func(part string) string {
			parts := []string{"name=10", "tokens=20", "sound=30", "city=40", "year=50", "phone=60"}
			parts[place] = part
			return strings.Join(parts, " ")
		}
		for _, score := range badScores {
			checkNoFeatures(t, join(name+"="+score))
		}
		upper, misspelled := strings.ToUpper(name), name[:1]+"x"+name[2:]
		badNames := []string{"", upper, upper[:1] + name[1:], name[:1] + upper[1:], misspelled, name + "s", name[1:], name[:len(name)-1], "x" + name, name + "\x00"}
		for _, other := range slices.Concat(badNames, names) {
			if other != name {
				checkNoFeatures(t, join(other+"=1"))
			}
		}
		for _, part := range []string{"", name, name + "1", name + " 1", name + " =1", name + "= 1", name + "=1 ", " " + name + "=1", name + ":1", name + ">=1", "1=" + name, "=" + name + "1"} {
			checkNoFeatures(t, join(part))
		}
	}
}

// Every order of the features other than the one of their numbers is no format.
func TestParseFeaturesRejectsOtherOrders(t *testing.T) {
	parts := []string{"name=1", "tokens=1", "sound=1", "city=1", "year=1", "phone=1"}
	inOrder, orders := strings.Join(parts, " "), 0
	var permute func(int)
	permute = func(n int) {
		if n == len(parts) {
			orders++
			if s := strings.Join(parts, " "); s != inOrder {
				checkNoFeatures(t, s)
			}
			return
		}
		for i := n; i < len(parts); i++ {
			parts[n], parts[i] = parts[i], parts[n]
			permute(n + 1)
			parts[n], parts[i] = parts[i], parts[n]
		}
	}
	permute(0)
	if orders != 720 {
		t.Errorf("%d orders", orders)
	}
}

// The S stands for the format of a score.
var featuresFormat = regexp.MustCompile(strings.ReplaceAll(
	`^name=S tokens=S sound=S city=S year=S phone=S$`, "S", `(0|[1-9][0-9]{0,2}|1000)`))

// The promise: a string is parsed if it is the format of a feature vector,
// which FormatFeatures finds again, and no other string is.
func checkParsedFeatures(t *testing.T, s string) {
	t.Helper()
	if !featuresFormat.MatchString(s) {
		checkNoFeatures(t, s)
		return
	}
	f, ok := impl.ParseFeatures(s)
	if !ok || !impl.IsFeatureVector(f) || impl.FormatFeatures(f) != s || featuresText(f) != s {
		t.Errorf("ParseFeatures(%q) = %v, %v", s, f, ok)
	}
}

func TestParseFeaturesOfEveryShortPart(t *testing.T) {
	everyString("019 =-+", 5, func(s string) {
		checkNoFeatures(t, s)
		checkParsedFeatures(t, "name="+s+" tokens=20 sound=30 city=40 year=50 phone=60")
		checkParsedFeatures(t, "name=10 tokens=20 sound="+s+" city=40 year=50 phone=60")
		checkParsedFeatures(t, "name=10 tokens=20 sound=30 city=40 year=50 phone="+s)
	})
	everyString("name= ", 4, func(s string) {
		checkParsedFeatures(t, s+"=10 tokens=20 sound=30 city=40 year=50 phone=60")
		checkParsedFeatures(t, s+"name=10 tokens=20 sound=30 city=40 year=50 phone=60")
	})
}

// Every change of one byte of a format gives another format or none.
func TestParseFeaturesOfEveryChange(t *testing.T) {
	for _, f := range [][]int{{0, 1, 10, 100, 1000, 999}, {1000, 1000, 0, 0, 25, 7}} {
		everyChange(featuresText(f), func(changed string) { checkParsedFeatures(t, changed) })
	}
}

func TestParseFeaturesSharesNoMemory(t *testing.T) {
	s := featuresText([]int{1, 2, 3, 4, 5, 6})
	first, _ := impl.ParseFeatures(s)
	second, _ := impl.ParseFeatures(s)
	for i := range first[:cap(first)] {
		first[:cap(first)][i] = 0
	}
	if impl.FormatFeatures(second) != s {
		t.Errorf("the features became %v with another result", second)
	}
}

func TestFeatureArgumentsAreUnchanged(t *testing.T) {
	for _, list := range slices.Concat(someVectors(), badVectors()) {
		// The places behind the list are a part of the argument, too.
		all := append(slices.Clone(list), 77, 78, 79)
		want, f := slices.Clone(all), all[:len(list)]
		impl.IsFeatureVector(f)
		impl.DominatesFeatures(f, f)
		impl.FormatFeatures(f)
		if !slices.Equal(all, want) {
			t.Errorf("%d elements became %v", len(want), all[:min(len(all), 10)])
		}
	}
	for _, list := range slices.Concat(someFields(), badFields()) {
		fields, all := withSpare(list)
		want := slices.Clone(all)
		impl.PairFeatures(recordWith(fields...), recordWith(fields...))
		if !slices.Equal(all, want) {
			t.Errorf("%q became %q", want, all)
		}
	}
}
