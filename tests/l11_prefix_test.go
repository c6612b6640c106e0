package tests

import (
	"math"
	"slices"
	"strings"
	"testing"

	"loop.example/g01923/impl"
)

var prefixThresholds = []int{1, 500, 700, 999, 1000}

// prefixSets are token sets: the empty one, equal ones, such of which one is a
// part of the other, such with one token in common, and such without.
func prefixSets() [][]string {
	sets := everySubset([]string{"a", "b", "c", "d", "e"})
	return append(sets,
		[]string{}, []string{"a", "b", "c"}, []string{"anna", "smith"}, []string{"anna", "smyth"}, []string{"0", "anna", "e"},
		numbered(0, 10), numbered(0, 10), numbered(0, 9), numbered(1, 10), numbered(9, 19), numbered(10, 20), numbered(0, 20),
		numbered(480, 520), numbered(490, 520), numbered(0, 1000), numbered(0, 999), numbered(1, 1001), numbered(999, 1999))
}

// tableOf returns a list of tokens and counts, which take turns as arguments.
func tableOf(tokensAndCounts ...any) []impl.TokenCount {
	var table []impl.TokenCount
	for pair := range slices.Chunk(tokensAndCounts, 2) {
		table = append(table, impl.TokenCount{Token: pair[0].(string), Count: pair[1].(int)})
	}
	return table
}

// badTables are lists that are no token tables, for all the reasons.
func badTables() [][]impl.TokenCount {
	return [][]impl.TokenCount{
		tableOf("a", 0),
		tableOf("a", -1),
		tableOf("b", 1, "a", 2),
		tableOf("a", 1, "a", 1),
		tableOf("a", 1, "b", 3, "b", 2),
		tableOf("a", 3, "c", 2, "b", 1),
		tableOf("e", 1, "d", 7, "d", 1, "c", -5, "b", math.MinInt, "a", math.MaxInt, "e", 9),
		tableOf("t10500", 4, "t10001", 2, "t10001", -2, "t10999", -1, "t10000", 0),
	}
}

// prefixTables are the empty table, tables counted from prefixSets and from
// other sets, which put the tokens into other orders, and badTables.
func prefixTables() [][]impl.TokenCount {
	return append(badTables(), nil,
		impl.CountTokens(prefixSets()),
		impl.CountTokens([][]string{{"a"}, {"a", "b"}, {"a", "b", "c"}, {"a", "b", "c", "d"}}),
		impl.CountTokens([][]string{{"anna", "b", "x"}, {"b", "d"}, {"d", "miller"}, numbered(400, 700), numbered(0, 500)}),
		impl.CountTokens([][]string{{"x", "y"}, {"z"}}))
}

// firstCount is the definition of TokenFrequency.
func firstCount(table []impl.TokenCount, token string) int {
	count := 0
	for i := range table {
		if entry := table[len(table)-1-i]; entry.Token == token {
			count = entry.Count
		}
	}
	return count
}

// beginning is the part of a list that a message shows.
func beginning[E any](l []E) []E {
	return l[:min(len(l), 10)]
}

func haveCommon(a, b []string) bool {
	return slices.ContainsFunc(a, func(s string) bool { return slices.Contains(b, s) })
}

// checkKept checks the promise for two sets: if they meet the threshold, no
// filter drops them. It returns whether they meet it.
func checkKept(t *testing.T, table []impl.TokenCount, a, b []string, threshold int) bool {
	t.Helper()
	if !impl.MeetsJaccard(a, b, threshold) {
		return false
	}
	if !impl.SharePrefix(table, a, b, threshold) {
		t.Errorf("SharePrefix(%v, %q, %q, %d) drops the pair", beginning(table), beginning(a), beginning(b), threshold)
	}
	if low, high := impl.LengthBounds(len(a), threshold); len(b) < low || len(b) > high {
		t.Errorf("LengthBounds(%d, %d) = %d, %d drops the size %d", len(a), threshold, low, high, len(b))
	}
	if common := len(impl.CommonTokens(a, b)); common < impl.MinOverlap(len(a), len(b), threshold) {
		t.Errorf("MinOverlap(%d, %d, %d) drops %d common tokens", len(a), len(b), threshold, common)
	}
	return true
}

// The promise: no filter drops a pair that meets its threshold.
func TestPrefixesDropNoSimilarPair(t *testing.T) {
	sets := prefixSets()
	for _, table := range prefixTables() {
		similar, dropped := 0, 0
		for _, a := range sets {
			for _, b := range sets {
				if len(a) == 0 || len(b) == 0 {
					continue
				}
				for _, threshold := range prefixThresholds {
					if checkKept(t, table, a, b, threshold) {
						similar++
					} else if haveCommon(a, b) && !impl.SharePrefix(table, a, b, threshold) {
						dropped++
					}
				}
			}
		}
		if similar < 1000 || dropped < 100 {
			t.Errorf("with the table %v, %d cases have a similar pair, and %d others are dropped", beginning(table), similar, dropped)
		}
	}
}

// The threshold of each pair is the greatest one that it meets.
func TestPrefixesDropNoPairAtItsThreshold(t *testing.T) {
	tables := prefixTables()
	everyPairOfSets(func(a, b []string, common int) {
		if common == 0 {
			return
		}
		threshold := impl.Jaccard(a, b)
		for _, table := range tables {
			if !checkKept(t, table, a, b, threshold) {
				t.Errorf("MeetsJaccard(%q, %q, %d) = false", a, b, threshold)
			}
		}
	})
}

// A shorter prefix would drop these pairs: of the prefix of the greater set, only
// the last token is common.
func TestPrefixesAreNoLongerThanNeeded(t *testing.T) {
	for size := 1; size <= 40; size++ {
		for common := 1; common <= size; common++ {
			a, b := numbered(0, size), numbered(size-common, size)
			threshold := impl.Jaccard(a, b)
			if !checkKept(t, nil, a, b, threshold) {
				t.Errorf("MeetsJaccard of %d and %d elements, threshold %d", size, common, threshold)
			}
			checkPrefix(t, nil, a, threshold, a[:size-common+1]...)
		}
	}
}

func checkCounts(t *testing.T, sets [][]string, tokensAndCounts ...any) {
	t.Helper()
	got, want := impl.CountTokens(sets), tableOf(tokensAndCounts...)
	if !slices.Equal(got, want) {
		t.Errorf("CountTokens(%q) = %v, want %v", beginning(sets), beginning(got), beginning(want))
	}
	if !impl.IsTokenTable(got) {
		t.Errorf("CountTokens(%q) = %v is no table", beginning(sets), beginning(got))
	}
}

func TestCountTokensValues(t *testing.T) {
	checkCounts(t, [][]string{{"a", "b"}, {"b", "c"}, {"b"}}, "a", 1, "b", 3, "c", 1)
	checkCounts(t, [][]string{{"anna"}, {"anna"}}, "anna", 2)
	// No lists, and empty ones.
	checkCounts(t, nil)
	checkCounts(t, [][]string{})
	checkCounts(t, [][]string{nil})
	checkCounts(t, [][]string{{}, nil, {}})
	checkCounts(t, [][]string{{}, {"a"}, nil}, "a", 1)
	// A repeated token counts once for its list, wherever it is.
	checkCounts(t, [][]string{{"a", "a", "a"}}, "a", 1)
	checkCounts(t, [][]string{{"a", "b", "a"}, {"b", "b"}, {"a"}}, "a", 2, "b", 2)
	// Lists that are not sorted.
	checkCounts(t, [][]string{{"c", "a", "b"}, {"b", "a"}}, "a", 2, "b", 2, "c", 1)
	// Any bytes, also none, ordered by bytes.
	checkCounts(t, [][]string{{"\xff", "é", "a", "B", "\x00", ""}, {"", "aa", "A b"}},
		"", 2, "\x00", 1, "A b", 1, "B", 1, "a", 1, "aa", 1, "é", 1, "\xff", 1)
}

func TestCountTokensOfAllLists(t *testing.T) {
	everyPairOfLists(anyListElements, 3, func(a, b []string) {
		sets := [][]string{a, b, {"a", "c"}}
		got := impl.CountTokens(sets)
		if !impl.IsTokenTable(got) {
			t.Errorf("CountTokens(%q) = %v is no table", sets, got)
		}
		for _, token := range append(slices.Clone(anyListElements), "c", "b") {
			want := 0
			for _, set := range sets {
				if slices.Contains(set, token) {
					want++
				}
			}
			if count := firstCount(got, token); count != want {
				t.Errorf("CountTokens(%q) has %d for %q", sets, count, token)
			}
		}
		if len(got) != len(impl.UniteTokens(impl.UniteTokens(a, b), sets[2])) {
			t.Errorf("CountTokens(%q) = %v", sets, got)
		}
	})
}

func TestCountTokensOfManyLists(t *testing.T) {
	sets := slices.Repeat([][]string{{"b", "a"}, {"b"}}, 50000)
	checkCounts(t, append(sets, numbered(0, 1)), "a", 50000, "b", 100000, "t10000", 1)
	table := impl.CountTokens([][]string{numbered(0, 80000), numbered(40000, 80000)})
	if len(table) != 80000 || table[39999].Count != 1 || table[40000].Count != 2 || !impl.IsTokenTable(table) {
		t.Errorf("%d tokens", len(table))
	}
}

func checkTable(t *testing.T, l []impl.TokenCount, want bool) {
	t.Helper()
	if got := impl.IsTokenTable(l); got != want {
		t.Errorf("IsTokenTable(%v) = %v", l, got)
	}
}

func TestIsTokenTableValues(t *testing.T) {
	for _, l := range [][]impl.TokenCount{
		nil, {}, make([]impl.TokenCount, 0, 3),
		tableOf("a", 1), tableOf("a", 1, "b", 1), tableOf("a", 2, "aa", 1, "b", 3), tableOf("a", math.MaxInt),
		// Any bytes are a token here.
		tableOf("", 1), tableOf("", 1, "\x00", 1, "A b", 1, "\xff", 1), tableOf("B", 1, "a", 1, "é", 1),
	} {
		checkTable(t, l, true)
	}
	for _, l := range badTables() {
		checkTable(t, l, false)
	}
	for _, l := range [][]impl.TokenCount{
		// Equal neighbours, and a descending pair: first, in the middle, last.
		tableOf("a", 1, "a", 2, "b", 1), tableOf("a", 1, "b", 1, "b", 1, "c", 1), tableOf("", 1, "", 1),
		tableOf("b", 1, "a", 1, "c", 1), tableOf("a", 1, "c", 1, "b", 1, "d", 1), tableOf("a", 1, "c", 1, "b", 1),
		tableOf("aa", 1, "a", 1), tableOf("a", 1, "B", 1), tableOf("a", 1, "", 1), tableOf("\xff", 1, "é", 1),
		// A count that is not at least 1: first, in the middle, last.
		tableOf("a", 0, "b", 1), tableOf("a", 1, "b", 0, "c", 1), tableOf("a", 1, "b", 0), tableOf("", 0),
		tableOf("a", -1, "b", 1), tableOf("a", 1, "b", -1, "c", 1), tableOf("a", 1, "b", -1), tableOf("a", math.MinInt),
	} {
		checkTable(t, l, false)
	}
}

// everyTable calls visit with every list of at most three counts of the tokens.
func everyTable(visit func([]impl.TokenCount)) {
	var entries []impl.TokenCount
	for _, token := range []string{"", "a", "b"} {
		for count := -1; count <= 2; count++ {
			entries = append(entries, impl.TokenCount{Token: token, Count: count})
		}
	}
	visit(nil)
	for _, first := range entries {
		visit([]impl.TokenCount{first})
		for _, second := range entries {
			visit([]impl.TokenCount{first, second})
			for _, third := range entries {
				visit([]impl.TokenCount{first, second, third})
			}
		}
	}
}

func TestIsTokenTableOfAllLists(t *testing.T) {
	everyTable(func(l []impl.TokenCount) {
		want := true
		for i, entry := range l {
			for _, later := range l[i+1:] {
				want = want && entry.Token < later.Token
			}
			want = want && entry.Count > 0
		}
		checkTable(t, l, want)
	})
}

func checkFrequency(t *testing.T, table []impl.TokenCount, token string, want int) {
	t.Helper()
	if got := impl.TokenFrequency(table, token); got != want {
		t.Errorf("TokenFrequency(%v, %q) = %d, want %d", table, token, got, want)
	}
}

func TestTokenFrequencyValues(t *testing.T) {
	table := tableOf("a", 4, "c", 1, "cc", math.MaxInt, "é", 2, "\xff", 3)
	for _, entry := range table {
		checkFrequency(t, table, entry.Token, entry.Count)
	}
	for _, missing := range []string{"", "A", "aa", "b", "ccc", "d", "\xc3", "\xff\x00", strings.Repeat("z", 1000)} {
		checkFrequency(t, table, missing, 0)
		checkFrequency(t, nil, missing, 0)
		checkFrequency(t, []impl.TokenCount{}, missing, 0)
	}
	checkFrequency(t, nil, "a", 0)
	checkFrequency(t, tableOf("", 7), "", 7)
	// The same token twice: the first one counts.
	checkFrequency(t, tableOf("a", 2, "a", 5), "a", 2)
	checkFrequency(t, tableOf("a", 5, "b", 1, "a", 2), "a", 5)
	checkFrequency(t, tableOf("b", 1, "a", 0, "a", 2), "a", 0)
	// Lists that are no tables.
	checkFrequency(t, tableOf("c", 3, "b", 2, "a", 1), "c", 3)
	checkFrequency(t, tableOf("c", 3, "b", 2, "a", 1), "a", 1)
	checkFrequency(t, tableOf("a", -1, "b", math.MinInt), "a", -1)
	checkFrequency(t, tableOf("a", -1, "b", math.MinInt), "b", math.MinInt)
}

func TestTokenFrequencyOfAllLists(t *testing.T) {
	everyTable(func(table []impl.TokenCount) {
		for _, token := range []string{"", "a", "b", "c"} {
			checkFrequency(t, table, token, firstCount(table, token))
		}
	})
}

// orderedInSteps takes the first one of the remaining tokens until none is left.
func orderedInSteps(table []impl.TokenCount, set []string) []string {
	var ordered []string
	rest := slices.Clone(set)
	for len(rest) > 0 {
		first := 0
		for i, token := range rest {
			count, least := firstCount(table, token), firstCount(table, rest[first])
			if count < least || count == least && token < rest[first] {
				first = i
			}
		}
		ordered = append(ordered, rest[first])
		rest = slices.Delete(rest, first, first+1)
	}
	return ordered
}

func checkOrder(t *testing.T, table []impl.TokenCount, set []string, want ...string) {
	t.Helper()
	if got := impl.OrderTokens(table, set); !slices.Equal(got, want) {
		t.Errorf("OrderTokens(%v, %q) = %q, want %q", beginning(table), beginning(set), beginning(got), beginning(want))
	}
}

// The edge case of the chapter: tokens with equal frequencies.
func TestOrderTokensWithEqualFrequencies(t *testing.T) {
	table := tableOf("a", 2, "b", 1, "c", 2, "d", 1, "e", 2)
	everyList([]string{"a", "b", "c", "d", "e"}, 5, func(set []string) {
		if len(impl.UniteTokens(set, nil)) == 5 {
			checkOrder(t, table, set, "b", "d", "a", "c", "e")
			checkOrder(t, nil, set, "a", "b", "c", "d", "e")
			checkOrder(t, tableOf("a", 3, "b", 3, "c", 3, "d", 3, "e", 3), set, "a", "b", "c", "d", "e")
			checkOrder(t, tableOf("e", 3, "d", 3, "c", 3, "b", 3, "a", 3), set, "a", "b", "c", "d", "e")
		}
	})
	// Bytes are compared, and a part is less than the whole.
	checkOrder(t, nil, []string{"é", "\xff", "b10", "b2", "aa", "a", "B", "\x00", ""}, "", "\x00", "B", "a", "aa", "b10", "b2", "é", "\xff")
	checkOrder(t, tableOf("", 1, "B", 1, "a", 1, "\xff", 1), []string{"\xff", "a", "", "B"}, "", "B", "a", "\xff")
}

func TestOrderTokensValues(t *testing.T) {
	table := tableOf("a", 3, "b", 1, "c", 2, "x", 1)
	checkOrder(t, table, []string{"a", "b", "c"}, "b", "c", "a")
	checkOrder(t, table, []string{"a"}, "a")
	// Tokens that the table does not have come first.
	checkOrder(t, table, []string{"a", "b", "c", "z"}, "z", "b", "c", "a")
	checkOrder(t, table, []string{"a", "aa", "b", "y", "z"}, "aa", "y", "z", "b", "a")
	checkOrder(t, table, []string{"w", "v"}, "v", "w")
	// Lists that are empty, have repeated elements or are not sorted.
	for _, empty := range [][]string{nil, {}, make([]string, 0, 4)} {
		checkOrder(t, table, empty)
		checkOrder(t, nil, empty)
	}
	checkOrder(t, table, []string{"a", "a", "a"}, "a", "a", "a")
	checkOrder(t, table, []string{"a", "b", "a", "z", "b", "z"}, "z", "z", "b", "b", "a", "a")
	checkOrder(t, table, []string{"x", "c", "b", "a"}, "b", "x", "c", "a")
	// The greatest and the least count.
	checkOrder(t, tableOf("a", math.MaxInt, "b", math.MaxInt-1, "c", 1), []string{"a", "b", "c", "d"}, "d", "c", "b", "a")
	checkOrder(t, tableOf("a", math.MaxInt, "b", math.MinInt, "c", -1), []string{"a", "b", "c", "d"}, "b", "c", "d", "a")
}

func TestOrderTokensOfTablesThatAreNotValid(t *testing.T) {
	// The first one of equal tokens counts.
	checkOrder(t, tableOf("a", 3, "a", 1, "b", 2), []string{"a", "b"}, "b", "a")
	checkOrder(t, tableOf("a", 1, "b", 2, "a", 3), []string{"a", "b"}, "a", "b")
	checkOrder(t, tableOf("a", 0, "a", 5, "b", 2), []string{"b", "a"}, "a", "b")
	// A descending table.
	checkOrder(t, tableOf("c", 1, "b", 2, "a", 3), []string{"a", "b", "c", "d"}, "d", "c", "b", "a")
	// A count of 0 is that of a missing token, and a negative one is less.
	checkOrder(t, tableOf("a", -1, "b", 0, "c", 1), []string{"c", "b", "aa", "a", "d"}, "a", "aa", "b", "d", "c")
}

func TestOrderTokensFollowsTheDefinition(t *testing.T) {
	var lists [][]string
	everyList([]string{"", "a", "b", "c"}, 3, func(l []string) { lists = append(lists, slices.Clone(l)) })
	everyTable(func(table []impl.TokenCount) {
		for _, set := range lists {
			checkOrder(t, table, set, orderedInSteps(table, set)...)
		}
	})
	for _, table := range prefixTables() {
		for _, set := range prefixSets() {
			if len(set) <= 20 {
				backwards := slices.Clone(set)
				slices.Reverse(backwards)
				checkOrder(t, table, set, orderedInSteps(table, set)...)
				checkOrder(t, table, backwards, orderedInSteps(table, set)...)
			}
		}
	}
}

// The tokens of these tables are found, and those between and beside them are not.
func TestOrderTokensFindsEveryTokenOfATable(t *testing.T) {
	all := numbered(0, 30)
	for size := range 12 {
		var table []impl.TokenCount
		for i := range size {
			table = append(table, impl.TokenCount{Token: all[2*i+1], Count: 1 + i*7%5})
		}
		backwards := slices.Clone(table)
		slices.Reverse(backwards)
		want := orderedInSteps(table, all)
		checkOrder(t, table, all, want...)
		checkOrder(t, backwards, all, want...)
	}
}

func TestOrderTokensOfManyTokens(t *testing.T) {
	set := numbered(0, 80000)
	table := impl.CountTokens([][]string{set, set[:40000]})
	want := slices.Concat(set[40000:], set[:40000])
	backwards := slices.Clone(table)
	slices.Reverse(backwards)
	for _, l := range [][]impl.TokenCount{table, backwards, append(slices.Clone(table), table...)} {
		if got := impl.OrderTokens(l, set); !slices.Equal(got, want) {
			t.Errorf("OrderTokens of %d tokens with %d counts", len(set), len(l))
		}
	}
}

func checkPrefixLength(t *testing.T, size, threshold, want int) {
	t.Helper()
	if got := impl.PrefixLength(size, threshold); got != want {
		t.Errorf("PrefixLength(%d, %d) = %d, want %d", size, threshold, got, want)
	}
}

func TestPrefixLengthValues(t *testing.T) {
	for _, c := range []struct{ size, threshold, want int }{
		{4, 500, 3},
		{4, 501, 2},
		{4, 1000, 1},
		{3, 800, 1},
		{3, 500, 2},
		{10, 700, 4},
		{10, 701, 3},
		{10, 699, 4},
		{0, 1, 0},
		{0, 500, 0},
		{0, 999, 0},
		{0, 1000, 0},
		{1, 1, 1},
		{1, 500, 1},
		{1, 999, 1},
		{1, 1000, 1},
		{2, 1, 2},
		{2, 500, 2},
		{2, 501, 1},
		{2, 999, 1},
		{2, 1000, 1},
		{999, 1, 999},
		{999, 1000, 1},
		{1000, 1, 1000},
		{1000, 2, 999},
		{1000, 500, 501},
		{1000, 999, 2},
		{1000, 1000, 1},
	} {
		checkPrefixLength(t, c.size, c.threshold, c.want)
	}
}

func TestPrefixLengthOutOfRange(t *testing.T) {
	for _, threshold := range slices.Concat(prefixThresholds, thresholdsOutOfRange) {
		for _, size := range sizesOutOfRange {
			checkPrefixLength(t, size, threshold, -1)
		}
	}
	for _, threshold := range thresholdsOutOfRange {
		for size := range 1001 {
			checkPrefixLength(t, size, threshold, -1)
		}
	}
}

func TestPrefixLengthOfAllSizes(t *testing.T) {
	for size := 1; size <= 1000; size++ {
		for _, threshold := range []int{1, 2, 333, 499, 500, 501, 667, 700, 750, 800, 998, 999, 1000} {
			low, _ := impl.LengthBounds(size, threshold)
			checkPrefixLength(t, size, threshold, size-low+1)
			if low < 1 || low > size {
				t.Errorf("LengthBounds(%d, %d) = %d", size, threshold, low)
			}
		}
		checkPrefixLength(t, size, 1, size)
		checkPrefixLength(t, size, 1000, 1)
	}
}

func checkPrefix(t *testing.T, table []impl.TokenCount, set []string, threshold int, want ...string) {
	t.Helper()
	if got := impl.PrefixTokens(table, set, threshold); !slices.Equal(got, want) {
		t.Errorf("PrefixTokens(%v, %q, %d) = %q, want %q", beginning(table), beginning(set), threshold, beginning(got), beginning(want))
	}
}

func TestPrefixTokensValues(t *testing.T) {
	table := tableOf("a", 1, "b", 3, "c", 1)
	set := []string{"a", "b", "c"}
	checkPrefix(t, table, set, 1, "a", "c", "b")
	checkPrefix(t, table, set, 333, "a", "c", "b")
	checkPrefix(t, table, set, 334, "a", "c")
	checkPrefix(t, table, set, 500, "a", "c")
	checkPrefix(t, table, set, 667, "a")
	checkPrefix(t, table, set, 800, "a")
	checkPrefix(t, table, set, 1000, "a")
	checkPrefix(t, nil, set, 500, "a", "b")
	checkPrefix(t, table, []string{"a", "b", "z"}, 500, "z", "a")
	checkPrefix(t, table, []string{"b"}, 1, "b")
	checkPrefix(t, table, []string{"b"}, 1000, "b")
	checkPrefix(t, tableOf("c", -1, "a", 2, "c", 9), set, 500, "c", "b")
}

func TestPrefixTokensAreTheBeginningOfOrderTokens(t *testing.T) {
	for _, table := range prefixTables() {
		for _, set := range prefixSets() {
			ordered := impl.OrderTokens(table, set)
			for _, threshold := range prefixThresholds {
				length := impl.PrefixLength(len(set), threshold)
				checkPrefix(t, table, set, threshold, ordered[:length]...)
			}
		}
	}
}

func TestPrefixTokensOfNoSet(t *testing.T) {
	for _, table := range prefixTables() {
		for _, threshold := range slices.Concat(prefixThresholds, thresholdsOutOfRange) {
			for _, bad := range badTokenSets {
				checkPrefix(t, table, bad, threshold)
			}
			for _, empty := range [][]string{nil, {}, make([]string, 0, 4)} {
				checkPrefix(t, table, empty, threshold)
			}
			// A set and a list that are too long.
			checkPrefix(t, table, numbered(0, 1001), threshold)
			checkPrefix(t, table, slices.Repeat([]string{"a"}, 1001), threshold)
		}
		for _, threshold := range thresholdsOutOfRange {
			checkPrefix(t, table, []string{"a"}, threshold)
			checkPrefix(t, table, []string{"a", "b", "c"}, threshold)
			checkPrefix(t, table, numbered(0, 1000), threshold)
		}
	}
	checkPrefix(t, nil, numbered(0, 1000), 1000, "t10000")
	checkPrefix(t, nil, numbered(0, 1000), 1, numbered(0, 1000)...)
}

func checkShared(t *testing.T, table []impl.TokenCount, a, b []string, threshold int, want bool) {
	t.Helper()
	if got := impl.SharePrefix(table, a, b, threshold); got != want {
		t.Errorf("SharePrefix(%v, %q, %q, %d) = %v", beginning(table), beginning(a), beginning(b), threshold, got)
	}
	if got := impl.SharePrefix(table, b, a, threshold); got != want {
		t.Errorf("SharePrefix(%v, %q, %q, %d) = %v", beginning(table), beginning(b), beginning(a), threshold, got)
	}
}

func TestSharePrefixValues(t *testing.T) {
	table := tableOf("a", 1, "b", 3, "c", 1)
	checkShared(t, table, []string{"a", "b"}, []string{"a", "c"}, 500, true)
	checkShared(t, table, []string{"a", "b"}, []string{"a", "c"}, 1000, true)
	// The prefixes have nothing in common, but the sets do.
	checkShared(t, table, []string{"a", "b"}, []string{"b", "c"}, 1000, false)
	checkShared(t, table, []string{"a", "b"}, []string{"b", "c"}, 501, false)
	checkShared(t, table, []string{"a", "b"}, []string{"b", "c"}, 500, true)
	checkShared(t, nil, []string{"a", "c", "d"}, []string{"b", "c", "d"}, 700, false)
	checkShared(t, nil, []string{"a", "c", "d"}, []string{"b", "c", "d"}, 500, true)
	checkShared(t, nil, []string{"a", "b"}, []string{"b"}, 1000, false)
	checkShared(t, nil, []string{"a", "b"}, []string{"b"}, 500, true)
	// A token that is common may have different places in the prefixes.
	checkShared(t, nil, []string{"a", "b", "c"}, []string{"c", "d", "e"}, 333, true)
	checkShared(t, nil, []string{"a", "b", "c"}, []string{"c", "d", "e"}, 334, false)
	// Sets without a common token.
	checkShared(t, nil, []string{"a"}, []string{"aa"}, 1, false)
	checkShared(t, table, []string{"a", "c"}, []string{"b", "d"}, 1, false)
	checkShared(t, nil, numbered(0, 500), numbered(500, 1000), 1, false)
	// The first one of equal tokens in a table decides what the prefixes are.
	checkShared(t, tableOf("b", -1, "a", 1, "b", 9), []string{"a", "b"}, []string{"b", "c"}, 1000, true)
	checkShared(t, tableOf("b", 9, "a", 1, "b", -1), []string{"a", "b"}, []string{"b", "c"}, 1000, false)
}

func TestSharePrefixOfEqualSets(t *testing.T) {
	for _, table := range prefixTables() {
		for _, set := range prefixSets() {
			for _, threshold := range prefixThresholds {
				checkShared(t, table, set, slices.Clone(set), threshold, len(set) > 0)
			}
			for _, threshold := range thresholdsOutOfRange {
				checkShared(t, table, set, slices.Clone(set), threshold, false)
			}
		}
	}
}

func TestSharePrefixOfNoSets(t *testing.T) {
	long := numbered(0, 1001)
	for _, table := range prefixTables() {
		for _, threshold := range slices.Concat(prefixThresholds, thresholdsOutOfRange) {
			for _, set := range [][]string{nil, {}, {"a"}, {"a", "b", "c"}, long[:1000], long} {
				checkShared(t, table, set, nil, threshold, false)
				checkShared(t, table, set, []string{}, threshold, false)
				checkShared(t, table, set, long, threshold, false)
			}
			for _, bad := range badTokenSets {
				checkShared(t, table, bad, bad, threshold, false)
				checkShared(t, table, bad, []string{"a"}, threshold, false)
				checkShared(t, table, bad, []string{"a", "b", "c"}, threshold, false)
				checkShared(t, table, bad, nil, threshold, false)
			}
		}
	}
}

func TestSharePrefixFollowsTheDefinition(t *testing.T) {
	sets := everySubset([]string{"a", "b", "c", "d", "e"})
	for _, table := range prefixTables() {
		for _, a := range sets {
			for _, b := range sets {
				for _, threshold := range []int{0, 1, 200, 201, 333, 334, 500, 501, 600, 601, 800, 801, 1000, 1001} {
					prefixA, prefixB := impl.PrefixTokens(table, a, threshold), impl.PrefixTokens(table, b, threshold)
					checkShared(t, table, a, b, threshold, haveCommon(prefixA, prefixB))
				}
			}
		}
	}
}

func TestPrefixResultsShareNoMemory(t *testing.T) {
	sets := [][]string{{"a", "b"}, {"b", "c"}, {"b"}}
	table, second := impl.CountTokens(sets), impl.CountTokens(sets)
	for i := range second[:cap(second)] {
		second[:cap(second)][i] = impl.TokenCount{Token: "changed", Count: -1}
	}
	want := tableOf("a", 1, "b", 3, "c", 1)
	if !slices.Equal(table, want) || !slices.Equal(impl.CountTokens(sets), want) {
		t.Errorf("the table became %v with another one", table)
	}
	set := []string{"a", "b", "c", "d"}
	for name, f := range map[string]func() []string{
		"OrderTokens":  func() []string { return impl.OrderTokens(table, set) },
		"PrefixTokens": func() []string { return impl.PrefixTokens(table, set, 1) },
	} {
		first, second := f(), f()
		for i := range second[:cap(second)] {
			second[:cap(second)][i] = "changed"
		}
		checkList(t, name, first, "d", "a", "c", "b")
		checkList(t, name, f(), "d", "a", "c", "b")
		checkList(t, "the set after "+name, set, "a", "b", "c", "d")
	}
}

// callPrefixFunctions calls every function that has a list, and changes the
// results, which shows in the arguments if they share memory.
func callPrefixFunctions(table []impl.TokenCount, sets [][]string) {
	counted := impl.CountTokens(sets)
	for i := range counted[:cap(counted)] {
		counted[:cap(counted)][i] = impl.TokenCount{Token: "changed", Count: -1}
	}
	impl.IsTokenTable(table)
	for _, set := range sets {
		impl.TokenFrequency(table, "a")
		for _, l := range [][]string{impl.OrderTokens(table, set), impl.PrefixTokens(table, set, 1), impl.PrefixTokens(table, set, 1000)} {
			for i := range l[:cap(l)] {
				l[:cap(l)][i] = "changed"
			}
		}
		impl.SharePrefix(table, set, sets[0], 500)
		impl.SharePrefix(table, sets[0], set, 500)
	}
}

func TestPrefixArgumentsAreUnchanged(t *testing.T) {
	lists := [][]string{{"a", "b", "c", "d", "e"}, {"e", "a", "c"}, {"b", "b", "a", "b"}, {"", "\xff", "é"}, nil, {}, numbered(0, 10)}
	for _, l := range prefixTables() {
		table, allCounts := withSpareOf(l, impl.TokenCount{Token: "spare", Count: 5})
		wantCounts := slices.Clone(allCounts)
		var sets, all [][]string
		for _, list := range lists {
			set, memory := withSpare(list)
			sets, all = append(sets, set), append(all, memory)
		}
		sets, allSets := withSpareOf(sets, []string{"spare"})
		callPrefixFunctions(table, sets)
		if !slices.Equal(allCounts, wantCounts) {
			t.Errorf("the table %v became %v", wantCounts, allCounts)
		}
		for i, list := range lists {
			_, want := withSpare(list)
			checkList(t, "all memory of a list", all[i], want...)
			checkList(t, "a list", allSets[i], list...)
		}
		for _, spare := range allSets[len(lists):] {
			checkList(t, "the memory behind the lists", spare, "spare")
		}
	}
}
