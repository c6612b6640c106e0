package tests

import (
	"math"
	"slices"
	"strconv"
	"testing"

	"loop.example/g01923/impl"
)

type similarity struct {
	name string
	of   func(a, b []string) int
}

var similarities = []similarity{
	{"Jaccard", impl.Jaccard},
	{"Dice", impl.Dice},
	{"Containment", impl.Containment},
}

var (
	sizesOutOfRange      = []int{math.MinInt, math.MinInt + 1, -1000, -1, 1001, 1002, math.MaxInt - 1, math.MaxInt}
	thresholdsOutOfRange = []int{math.MinInt, math.MinInt + 1, -1000, -1, 0, 1001, 1002, math.MaxInt - 1, math.MaxInt}
)

// someSizes are the sizes at the limits and others between them.
var someSizes = []int{0, 1, 2, 3, 4, 7, 10, 33, 500, 501, 998, 999, 1000}

// everySubset returns all subsets of a set, each in the order of the set.
func everySubset(set []string) [][]string {
	subsets := [][]string{nil}
	for _, s := range set {
		for _, subset := range subsets {
			subsets = append(subsets, append(slices.Clone(subset), s))
		}
	}
	return subsets
}

// everyPairOfSets calls visit with every two token sets of six tokens, and
// with the size of their intersection.
func everyPairOfSets(visit func(a, b []string, common int)) {
	subsets := everySubset([]string{"0", "19", "2", "a", "aa", "b"})
	for _, a := range subsets {
		for _, b := range subsets {
			common := 0
			for _, s := range a {
				common += countOf(b, s)
			}
			visit(a, b, common)
		}
	}
}

// numbered returns the tokens from number first up to, but not including,
// number end. They have the same number of digits, and so ascend.
func numbered(first, end int) []string {
	var set []string
	for i := first; i < end; i++ {
		set = append(set, "t"+strconv.Itoa(10000+i))
	}
	return set
}

func checkSimilarities(t *testing.T, a, b []string, jaccard, dice, containment int) {
	t.Helper()
	for i, want := range []int{jaccard, dice, containment} {
		if got := similarities[i].of(a, b); got != want {
			t.Errorf("%s(%q, %q) = %d, want %d", similarities[i].name, a, b, got, want)
		}
		if got := similarities[i].of(b, a); got != want {
			t.Errorf("%s(%q, %q) = %d, want %d", similarities[i].name, b, a, got, want)
		}
	}
}

func TestSimilarityValues(t *testing.T) {
	for _, c := range []struct {
		a, b                       []string
		jaccard, dice, containment int
	}{
		{[]string{"anna"}, []string{"anna"}, 1000, 1000, 1000},
		{[]string{"anna"}, []string{"smith"}, 0, 0, 0},
		{[]string{"anna", "smith"}, []string{"anna"}, 500, 666, 1000},
		{[]string{"anna", "smith"}, []string{"anna", "miller"}, 333, 500, 500},
		{[]string{"a", "b", "c"}, []string{"b", "c", "d", "e"}, 400, 571, 666},
		{[]string{"a", "b", "c"}, []string{"a", "b", "d"}, 500, 666, 666},
		{[]string{"a", "c", "e"}, []string{"b", "d", "f"}, 0, 0, 0},
		{[]string{"a", "b", "c", "d", "e", "f"}, []string{"f"}, 166, 285, 1000},
		{[]string{"a", "b", "c", "d", "e", "f"}, []string{"a", "g"}, 142, 250, 500},
		{[]string{"10", "9", "a"}, []string{"10", "9", "a", "b"}, 750, 857, 1000},
		// A token and its prefix are different elements.
		{[]string{"a", "aa"}, []string{"aa", "aaa"}, 333, 500, 500},
		{[]string{"0"}, []string{"00"}, 0, 0, 0},
	} {
		checkSimilarities(t, c.a, c.b, c.jaccard, c.dice, c.containment)
	}
}

func TestSimilaritiesOfEmptySets(t *testing.T) {
	empties := [][]string{nil, {}, make([]string, 0, 4), []string{"a", "b"}[:0]}
	for _, empty := range empties {
		for _, other := range empties {
			checkSimilarities(t, empty, other, 1000, 1000, 1000)
		}
		// The smaller size is 0, and so is the denominator of Containment.
		for _, other := range [][]string{{"a"}, {"a", "b"}, numbered(0, 1000)} {
			checkSimilarities(t, empty, other, 0, 0, 1000)
		}
	}
}

func TestSimilaritiesOfLargeSets(t *testing.T) {
	// The similarities have no limit of 1000 elements.
	for _, c := range []struct {
		a, b                       []string
		jaccard, dice, containment int
	}{
		{numbered(0, 1000), numbered(0, 1000), 1000, 1000, 1000},
		{numbered(0, 1001), numbered(0, 1001), 1000, 1000, 1000},
		{numbered(0, 5000), numbered(0, 5000), 1000, 1000, 1000},
		{numbered(0, 5000), numbered(0, 4999), 999, 999, 1000},
		{numbered(0, 5000), numbered(1, 5000), 999, 999, 1000},
		{numbered(0, 5000), numbered(2500, 7500), 333, 500, 500},
		{numbered(0, 2000), numbered(1999, 4000), 0, 0, 0},
		{numbered(0, 2000), numbered(1998, 4000), 0, 0, 1},
		{numbered(0, 2000), numbered(1996, 3996), 1, 2, 2},
		{numbered(0, 2000), numbered(2000, 4000), 0, 0, 0},
		{numbered(0, 5000), nil, 0, 0, 1000},
		{numbered(0, 5000), numbered(4999, 5000), 0, 0, 1000},
	} {
		checkSimilarities(t, c.a, c.b, c.jaccard, c.dice, c.containment)
	}
}

// badTokenSets has every reason for which a list is no token set.
var badTokenSets = [][]string{
	{"b", "a"}, {"a", "a"}, {"a", "c", "b"}, {"a", "b", "b"}, {"aa", "a"},
	{""}, {"", "a"}, {"A"}, {"a", "bC"}, {"a b"}, {"a-b"}, {"é"}, {"a", "b\xff"}, {"a\x00"},
}

func TestSimilaritiesOfListsThatAreNoTokenSets(t *testing.T) {
	others := slices.Concat([][]string{nil, {}, {"a"}, {"a", "b", "c"}, {"0"}}, badTokenSets)
	for _, bad := range badTokenSets {
		for _, other := range others {
			checkSimilarities(t, bad, other, 0, 0, 0)
			for _, threshold := range []int{1, 500, 1000} {
				if impl.MeetsJaccard(bad, other, threshold) || impl.MeetsJaccard(other, bad, threshold) {
					t.Errorf("MeetsJaccard of %q and %q, %d", bad, other, threshold)
				}
			}
		}
	}
}

// The promise: similarities are symmetric, lie within 0 to 1000, and are 1000
// for equal non-empty arguments.
func TestSimilaritiesAreSymmetricAndWithinRange(t *testing.T) {
	everyPairOfSets(func(a, b []string, common int) {
		for _, f := range similarities {
			got := f.of(a, b)
			if got < 0 || got > 1000 || got != f.of(b, a) {
				t.Errorf("%s(%q, %q) = %d, and %d the other way round", f.name, a, b, got, f.of(b, a))
			}
			if slices.Equal(a, b) && got != 1000 {
				t.Errorf("%s(%q, %q) = %d", f.name, a, b, got)
			}
			if f.name != "Containment" && !slices.Equal(a, b) && got == 1000 {
				t.Errorf("%s(%q, %q) = 1000", f.name, a, b)
			}
		}
	})
}

// checkQuotient compares a result with 1000*part/whole, rounded down, without
// a division.
func checkQuotient(t *testing.T, name string, a, b []string, got, part, whole int) {
	t.Helper()
	if whole == 0 {
		part, whole = 1, 1
	}
	if got*whole > 1000*part || (got+1)*whole <= 1000*part {
		t.Errorf("%s(%q, %q) = %d, which is not 1000*%d/%d rounded down", name, a, b, got, part, whole)
	}
}

func TestSimilaritiesAreRoundedDown(t *testing.T) {
	everyPairOfSets(func(a, b []string, common int) {
		sum, smaller := len(a)+len(b), min(len(a), len(b))
		checkQuotient(t, "Jaccard", a, b, impl.Jaccard(a, b), common, sum-common)
		checkQuotient(t, "Dice", a, b, impl.Dice(a, b), 2*common, sum)
		checkQuotient(t, "Containment", a, b, impl.Containment(a, b), common, smaller)
	})
}

func TestMinOverlapValues(t *testing.T) {
	for _, c := range []struct{ sizeA, sizeB, threshold, want int }{
		{3, 4, 400, 2},
		{3, 4, 401, 3},
		{3, 4, 750, 3},
		{2, 2, 333, 1},
		{2, 2, 334, 2},
		{2, 2, 1000, 2},
		{5, 5, 1, 1},
		{1, 1, 1, 1},
		{1, 1, 1000, 1},
		{10, 10, 800, 9},
		{10, 10, 818, 9},
		{10, 10, 819, 10},
		// Greater than the smaller size: no such sets meet the threshold.
		{3, 4, 751, 4},
		{1, 4, 1000, 3},
		{0, 1, 1, 1},
		{0, 7, 1000, 4},
		// The limits of sizes and thresholds.
		{0, 0, 1, 0},
		{0, 0, 500, 0},
		{0, 0, 1000, 0},
		{0, 1000, 1, 1},
		{0, 1000, 1000, 500},
		{1000, 1000, 1, 2},
		{1000, 1000, 1000, 1000},
		{999, 1000, 1000, 1000},
		{999, 1000, 999, 999},
	} {
		if got := impl.MinOverlap(c.sizeA, c.sizeB, c.threshold); got != c.want {
			t.Errorf("MinOverlap(%d, %d, %d) = %d, want %d", c.sizeA, c.sizeB, c.threshold, got, c.want)
		}
		if got := impl.MinOverlap(c.sizeB, c.sizeA, c.threshold); got != c.want {
			t.Errorf("MinOverlap(%d, %d, %d) = %d, want %d", c.sizeB, c.sizeA, c.threshold, got, c.want)
		}
	}
}

func TestMinOverlapIsTheLeastNumber(t *testing.T) {
	for _, sizeA := range someSizes {
		for _, sizeB := range someSizes {
			for threshold := 1; threshold <= 1000; threshold++ {
				meets := func(c int) bool { return 1000*c >= threshold*(sizeA+sizeB-c) }
				c := impl.MinOverlap(sizeA, sizeB, threshold)
				if c < 0 || !meets(c) || meets(c-1) {
					t.Errorf("MinOverlap(%d, %d, %d) = %d", sizeA, sizeB, threshold, c)
				}
			}
		}
	}
}

func TestMinOverlapOutOfRange(t *testing.T) {
	check := func(sizeA, sizeB, threshold int) {
		t.Helper()
		if got := impl.MinOverlap(sizeA, sizeB, threshold); got != -1 {
			t.Errorf("MinOverlap(%d, %d, %d) = %d", sizeA, sizeB, threshold, got)
		}
	}
	for _, size := range sizesOutOfRange {
		for _, other := range slices.Concat(sizesOutOfRange, someSizes) {
			for _, threshold := range slices.Concat(thresholdsOutOfRange, []int{1, 500, 1000}) {
				check(size, other, threshold)
				check(other, size, threshold)
			}
		}
	}
	for _, threshold := range thresholdsOutOfRange {
		for _, size := range someSizes {
			check(size, size, threshold)
			check(size, 0, threshold)
			check(1000, size, threshold)
		}
	}
}

func TestLengthBoundsValues(t *testing.T) {
	for _, c := range []struct{ size, threshold, low, high int }{
		{3, 500, 2, 6},
		{4, 500, 2, 8},
		{10, 800, 8, 12},
		{10, 801, 9, 12},
		{10, 799, 8, 12},
		{12, 750, 9, 16},
		{3, 333, 1, 9},
		{3, 334, 2, 8},
		{7, 1000, 7, 7},
		{7, 999, 7, 7},
		{7, 857, 6, 8},
		{7, 858, 7, 8},
		{1, 999, 1, 1},
		// The limits of sizes and thresholds.
		{0, 1, 0, 0},
		{0, 500, 0, 0},
		{0, 1000, 0, 0},
		{1, 1, 1, 1000},
		{1, 1000, 1, 1},
		{1000, 1, 1, 1000000},
		{1000, 1000, 1000, 1000},
		{1000, 999, 999, 1001},
		{999, 1, 1, 999000},
	} {
		if low, high := impl.LengthBounds(c.size, c.threshold); low != c.low || high != c.high {
			t.Errorf("LengthBounds(%d, %d) = %d, %d, want %d, %d", c.size, c.threshold, low, high, c.low, c.high)
		}
	}
}

func TestLengthBoundsAreRounded(t *testing.T) {
	for size := range 1001 {
		for threshold := 1; threshold <= 1000; threshold++ {
			low, high := impl.LengthBounds(size, threshold)
			if 1000*low < size*threshold || 1000*(low-1) >= size*threshold {
				t.Fatalf("LengthBounds(%d, %d) = %d, %d: the first is not rounded up", size, threshold, low, high)
			}
			if high*threshold > size*1000 || (high+1)*threshold <= size*1000 {
				t.Fatalf("LengthBounds(%d, %d) = %d, %d: the second is not rounded down", size, threshold, low, high)
			}
		}
	}
}

func TestLengthBoundsOutOfRange(t *testing.T) {
	check := func(size, threshold int) {
		t.Helper()
		if low, high := impl.LengthBounds(size, threshold); low != -1 || high != -1 {
			t.Errorf("LengthBounds(%d, %d) = %d, %d", size, threshold, low, high)
		}
	}
	for _, size := range sizesOutOfRange {
		for _, threshold := range slices.Concat(thresholdsOutOfRange, []int{1, 500, 1000}) {
			check(size, threshold)
		}
	}
	for _, size := range someSizes {
		for _, threshold := range thresholdsOutOfRange {
			check(size, threshold)
		}
	}
}

// Of two sets of given sizes, those that contain each other are most similar.
func TestLengthBoundsAreTheSizesThatCanMeet(t *testing.T) {
	for size := range 12 {
		for other := range 40 {
			for threshold := 1; threshold <= 1000; threshold += 3 {
				low, high := impl.LengthBounds(size, threshold)
				within := low <= other && other <= high
				if got := impl.MeetsJaccard(numbered(0, size), numbered(0, other), threshold); got != within {
					t.Errorf("sizes %d and %d, threshold %d: bounds %d, %d, and %v", size, other, threshold, low, high, got)
				}
				if got := impl.MinOverlap(size, other, threshold) <= min(size, other); got != within {
					t.Errorf("sizes %d and %d, threshold %d: bounds %d, %d, and an overlap: %v", size, other, threshold, low, high, got)
				}
			}
		}
	}
}

func checkGreatestThreshold(t *testing.T, a, b []string, greatest int) {
	t.Helper()
	for threshold := 1; threshold <= 1000; threshold++ {
		want := threshold <= greatest
		if got := impl.MeetsJaccard(a, b, threshold); got != want {
			t.Fatalf("MeetsJaccard of %d and %d elements, threshold %d: %v", len(a), len(b), threshold, got)
		}
		if got := impl.MeetsJaccard(b, a, threshold); got != want {
			t.Fatalf("MeetsJaccard of %d and %d elements, threshold %d: %v", len(b), len(a), threshold, got)
		}
	}
}

func TestMeetsJaccardAtTheThreshold(t *testing.T) {
	for _, c := range []struct {
		a, b     []string
		greatest int
	}{
		{[]string{"a", "b", "c"}, []string{"b", "c", "d", "e"}, 400},
		{[]string{"a", "b"}, []string{"b"}, 500},
		{[]string{"a", "b"}, []string{"a", "b", "c"}, 666},
		{[]string{"a", "b"}, []string{"b", "c"}, 333},
		{[]string{"a"}, []string{"a"}, 1000},
		{[]string{"a"}, []string{"b"}, 0},
		{nil, nil, 1000},
		{nil, []string{}, 1000},
		{nil, []string{"a"}, 0},
		{[]string{}, []string{"a", "b"}, 0},
	} {
		checkGreatestThreshold(t, c.a, c.b, c.greatest)
	}
}

func TestMeetsJaccardOfLargeSets(t *testing.T) {
	for _, c := range []struct {
		a, b     []string
		greatest int
	}{
		{numbered(0, 1000), numbered(0, 1000), 1000},
		{numbered(0, 1000), numbered(0, 999), 999},
		{numbered(0, 1000), numbered(1, 1000), 999},
		{numbered(0, 1000), numbered(500, 1500), 333},
		// Two elements of 1998 are more than a thousandth, one of 1999 is less.
		{numbered(0, 1000), numbered(998, 1998), 1},
		{numbered(0, 1000), numbered(999, 1999), 0},
		{numbered(0, 1000), numbered(1000, 2000), 0},
		{numbered(0, 1000), numbered(0, 1), 1},
		{numbered(0, 1000), nil, 0},
		// More than 1000 elements.
		{numbered(0, 1001), numbered(0, 1001), 0},
		{numbered(0, 1001), numbered(0, 1000), 0},
		{numbered(0, 1001), numbered(0, 500), 0},
		{numbered(0, 1001), nil, 0},
		{numbered(0, 2000), numbered(0, 2000), 0},
	} {
		checkGreatestThreshold(t, c.a, c.b, c.greatest)
	}
}

func TestMeetsJaccardThresholdsOutOfRange(t *testing.T) {
	for _, threshold := range thresholdsOutOfRange {
		for _, c := range [][2][]string{
			{nil, nil}, {{"a"}, {"a"}}, {{"a"}, {"b"}}, {{"a"}, nil}, {{"a", "b"}, {"b"}},
			{numbered(0, 1000), numbered(0, 1000)}, {{"b", "a"}, {"b", "a"}},
		} {
			if impl.MeetsJaccard(c[0], c[1], threshold) || impl.MeetsJaccard(c[1], c[0], threshold) {
				t.Errorf("MeetsJaccard of %d and %d elements, threshold %d", len(c[0]), len(c[1]), threshold)
			}
		}
	}
}

func TestMeetsJaccardAgreesWithJaccardAndMinOverlap(t *testing.T) {
	everyPairOfSets(func(a, b []string, common int) {
		for threshold := 1; threshold <= 1000; threshold += 9 {
			got := impl.MeetsJaccard(a, b, threshold)
			if want := impl.Jaccard(a, b) >= threshold; got != want {
				t.Errorf("MeetsJaccard(%q, %q, %d) = %v, but Jaccard is %d", a, b, threshold, got, impl.Jaccard(a, b))
			}
			if least := impl.MinOverlap(len(a), len(b), threshold); got != (common >= least) {
				t.Errorf("MeetsJaccard(%q, %q, %d) = %v, but MinOverlap is %d", a, b, threshold, got, least)
			}
		}
	})
}

func TestSimilarityArgumentsAreUnchanged(t *testing.T) {
	everyPairOfLists([]string{"b", "a", "B"}, 3, func(a, b []string) {
		listA, allA := withSpare(a)
		listB, allB := withSpare(b)
		wantA, wantB := slices.Clone(allA), slices.Clone(allB)
		for _, f := range similarities {
			f.of(listA, listB)
		}
		impl.MeetsJaccard(listA, listB, 500)
		if !slices.Equal(allA, wantA) || !slices.Equal(allB, wantB) {
			t.Errorf("%q and %q became %q and %q", wantA, wantB, allA, allB)
		}
	})
}
