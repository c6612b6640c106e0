package tests

import (
	"math"
	"slices"
	"strings"
	"testing"

	"loop.example/g01923/impl"
)

// setIDs are as many IDs as an index has room for, with the least and the greatest.
var setIDs = []int{0, 1, 2, 9, 10, 11, 99, 100, 101, 500, 998, 999}

var idsOutOfRange = []int{math.MinInt, math.MinInt + 1, -1000, -1, 1000, 1001, math.MaxInt - 1, math.MaxInt}

// indexOf returns an index with the sets, which have the last of the setIDs.
func indexOf(threshold int, table []impl.TokenCount, sets ...[]string) impl.SetIndex {
	x := impl.SetIndex{Threshold: threshold, Table: table}
	for i, id := range setIDs[len(setIDs)-len(sets):] {
		x.Sets = append(x.Sets, impl.IndexedSet{ID: id, Tokens: sets[i]})
	}
	return x
}

// indexWithIDs returns an index that has the same set for all IDs.
func indexWithIDs(ids ...int) impl.SetIndex {
	x := impl.SetIndex{Threshold: 500, Table: tableOf("a", 2)}
	for _, id := range ids {
		x.Sets = append(x.Sets, impl.IndexedSet{ID: id, Tokens: []string{"a", "b"}})
	}
	return x
}

// fewSets has equal sets, such with one token in common, such without one, empty
// ones, and such of which one is a part of another.
func fewSets() [][]string {
	return [][]string{
		{}, {"a"}, {"a", "b"}, {"a", "b"}, {"a", "b", "c"}, {"b", "c"}, {"c"}, nil, {"x"}, {"x", "y"},
		{"a", "x"}, {"a", "b", "c", "d", "e"}, {"b", "c", "d", "e"}, {"anna", "smith"}, {"anna", "smyth"},
		{"e", "x"}, {"a", "b", "c", "d", "f"}, {"c", "d", "e", "x", "y", "z"},
	}
}

// manySets has sets with sizes at and beyond the limit.
func manySets() [][]string {
	return [][]string{
		{}, numbered(0, 10), numbered(0, 9), numbered(1, 10), numbered(9, 19), numbered(0, 20),
		numbered(0, 500), numbered(250, 750), numbered(0, 999), numbered(0, 1000), numbered(1, 1001), numbered(0, 1001),
	}
}

// tablesFor are the empty table, and tables counted from the sets of an index
// and from other sets.
func tablesFor(sets [][]string) [][]impl.TokenCount {
	return [][]impl.TokenCount{
		nil,
		impl.CountTokens(sets),
		impl.CountTokens([][]string{{"a", "anna", "b", "x"}, {"a", "b", "d"}, {"a", "d", "miller"}, {"a"}, numbered(0, 600)}),
	}
}

// everyIndex calls visit with indexes of the sets for all thresholds and tables.
func everyIndex(sets [][]string, visit func(impl.SetIndex)) {
	for _, table := range tablesFor(sets) {
		for _, threshold := range prefixThresholds {
			visit(indexOf(threshold, table, sets...))
		}
	}
}

func similarInSteps(x impl.SetIndex, tokens []string) []int {
	var ids []int
	for _, set := range x.Sets {
		if impl.MeetsJaccard(tokens, set.Tokens, x.Threshold) {
			ids = append(ids, set.ID)
		}
	}
	return ids
}

func candidatesInSteps(x impl.SetIndex, tokens []string) []int {
	low, high := impl.LengthBounds(len(tokens), x.Threshold)
	var ids []int
	for _, set := range x.Sets {
		size := len(set.Tokens)
		if len(tokens) == 0 && size == 0 ||
			low <= size && size <= high && impl.SharePrefix(x.Table, tokens, set.Tokens, x.Threshold) {
			ids = append(ids, set.ID)
		}
	}
	return ids
}

func similarPairsInSteps(x impl.SetIndex) []impl.IDPair {
	var pairs []impl.IDPair
	for i, a := range x.Sets {
		for _, b := range x.Sets[i+1:] {
			if impl.MeetsJaccard(a.Tokens, b.Tokens, x.Threshold) {
				pairs = append(pairs, impl.IDPair{A: a.ID, B: b.ID})
			}
		}
	}
	return pairs
}

// indexText is short enough for a message.
func indexText(x impl.SetIndex) impl.SetIndex {
	x = copyOfIndex(x)
	x.Table, x.Sets = beginning(x.Table), x.Sets[:min(len(x.Sets), impl.MaxSets+1)]
	for i := range x.Sets {
		x.Sets[i].Tokens = beginning(x.Sets[i].Tokens)
	}
	return x
}

func checkCandidates(t *testing.T, x impl.SetIndex, tokens []string, want ...int) {
	t.Helper()
	if got := impl.SetCandidates(x, tokens); !slices.Equal(got, want) {
		t.Errorf("SetCandidates(%v, %q) = %v, want %v", indexText(x), beginning(tokens), got, want)
	}
}

func checkSearch(t *testing.T, x impl.SetIndex, tokens []string, want ...int) {
	t.Helper()
	if got := impl.SearchSets(x, tokens); !slices.Equal(got, want) {
		t.Errorf("SearchSets(%v, %q) = %v, want %v", indexText(x), beginning(tokens), got, want)
	}
}

// checkJoin takes the IDs of each pair as two arguments.
func checkJoin(t *testing.T, x impl.SetIndex, ids ...int) {
	t.Helper()
	var want []impl.IDPair
	for pair := range slices.Chunk(ids, 2) {
		want = append(want, impl.IDPair{A: pair[0], B: pair[1]})
	}
	if got := impl.JoinSets(x); !slices.Equal(got, want) {
		t.Errorf("JoinSets(%v) = %v, want %v", indexText(x), got, want)
	}
}

// checkFound checks the promise for one index: every set that meets the threshold is
// a candidate, and searches and joins find exactly these sets. It returns the numbers
// of sets that are found, and of other candidates.
func checkFound(t *testing.T, x impl.SetIndex, queries [][]string) (int, int) {
	t.Helper()
	similar, others := 0, 0
	for _, tokens := range queries {
		want := similarInSteps(x, tokens)
		checkSearch(t, x, tokens, want...)
		candidates := impl.SetCandidates(x, tokens)
		for _, id := range want {
			if !slices.Contains(candidates, id) {
				t.Errorf("SetCandidates(%v, %q) = %v drops %d", indexText(x), beginning(tokens), candidates, id)
			}
		}
		checkCandidates(t, x, tokens, candidatesInSteps(x, tokens)...)
		similar += len(want)
		others += len(candidates) - len(want)
	}
	if got, want := impl.JoinSets(x), similarPairsInSteps(x); !slices.Equal(got, want) {
		t.Errorf("JoinSets(%v) = %v, want %v", indexText(x), got, want)
	}
	return similar, others
}

// The promise, for indexes without sets, with one and with two.
func TestSearchesAndJoinsInSmallIndexes(t *testing.T) {
	sets := fewSets()
	queries := append(fewSets(), []string{"z"}, []string{"a", "b", "z"}, []string{"0", "a", "b", "c", "d", "e"})
	similar, others := 0, 0
	check := func(x impl.SetIndex) {
		found, dropped := checkFound(t, x, queries)
		similar, others = similar+found, others+dropped
	}
	everyIndex(nil, check)
	if similar > 0 || others > 0 {
		t.Errorf("an index without sets has %d similar ones and %d candidates", similar, others)
	}
	for _, a := range sets {
		everyIndex([][]string{a}, check)
		for _, b := range sets {
			everyIndex([][]string{a, b}, check)
		}
	}
	if similar < 10000 || others < 1000 {
		t.Errorf("%d similar sets, and %d other candidates", similar, others)
	}
}

// The promise, for indexes with as many sets as possible.
func TestSearchesAndJoinsInFullIndexes(t *testing.T) {
	sets := fewSets()
	for shift := range sets {
		full := slices.Concat(sets[shift:], sets[:shift])[:impl.MaxSets]
		everyIndex(full, func(x impl.SetIndex) { checkFound(t, x, sets) })
	}
	subsets := everySubset([]string{"a", "b", "c", "d"})
	for shift := range subsets {
		full := slices.Concat(subsets[shift:], subsets[:shift])[:impl.MaxSets]
		everyIndex(full, func(x impl.SetIndex) { checkFound(t, x, subsets) })
	}
	for _, set := range sets {
		everyIndex(slices.Repeat([][]string{set}, impl.MaxSets), func(x impl.SetIndex) { checkFound(t, x, sets) })
	}
}

// The promise, for sets with up to 1000 tokens and more.
func TestSearchesAndJoinsOfManyTokens(t *testing.T) {
	sets := manySets()
	queries := append(sets, numbered(990, 1990), numbered(0, 2000), numbered(999, 1000))
	everyIndex(sets, func(x impl.SetIndex) { checkFound(t, x, queries) })
}

// The threshold is the greatest that a pair meets, and then one more.
func TestSearchesAtTheThreshold(t *testing.T) {
	everyPairOfSets(func(a, b []string, common int) {
		greatest := impl.Jaccard(a, b)
		for _, table := range [][]impl.TokenCount{nil, impl.CountTokens([][]string{a}), impl.CountTokens([][]string{a, b})} {
			if greatest > 0 {
				x := indexOf(greatest, table, b)
				checkSearch(t, x, a, 999)
				checkCandidates(t, x, a, 999)
				checkJoin(t, indexOf(greatest, table, a, b), 998, 999)
			}
			if greatest < 1000 {
				checkSearch(t, indexOf(greatest+1, table, b), a)
				checkJoin(t, indexOf(greatest+1, table, a, b))
			}
		}
	})
}

func TestSearchSetsValues(t *testing.T) {
	x := indexOf(500, nil, []string{"ann", "lee"}, []string{"ann", "b", "smith"}, []string{"ann", "smith"}, []string{})
	checkSearch(t, x, []string{"ann", "smith"}, 500, 998)
	checkCandidates(t, x, []string{"ann", "smith"}, 101, 500, 998)
	checkSearch(t, x, []string{"lee"}, 101)
	checkSearch(t, x, []string{"b", "c"})
	checkCandidates(t, x, []string{"b", "c"}, 500)
	checkSearch(t, x, []string{"miller"})
	checkCandidates(t, x, []string{"miller"})
	checkJoin(t, x, 500, 998)
	x.Threshold = 333
	checkSearch(t, x, []string{"ann", "smith"}, 101, 500, 998)
	checkJoin(t, x, 101, 998, 500, 998)
	x.Threshold = 250
	checkJoin(t, x, 101, 500, 101, 998, 500, 998)
	x.Threshold = 1000
	checkSearch(t, x, []string{"ann", "smith"}, 998)
	checkJoin(t, x)
}

// The edge case of the chapter: an empty set.
func TestSetCandidatesOfNoTokens(t *testing.T) {
	for _, threshold := range prefixThresholds {
		for _, table := range tablesFor(fewSets()) {
			x := indexOf(threshold, table, []string{"a"}, []string{}, []string{"a", "b"}, nil, []string{"b"})
			for _, empty := range [][]string{nil, {}, make([]string, 0, 4)} {
				checkCandidates(t, x, empty, 101, 998)
				checkSearch(t, x, empty, 101, 998)
				checkCandidates(t, indexOf(threshold, table), empty)
				checkCandidates(t, indexOf(threshold, table, []string{"a"}, []string{"b"}), empty)
				checkSearch(t, indexOf(threshold, table, []string{"a"}, []string{"b"}), empty)
				checkSearch(t, indexOf(threshold, table, empty), nil, 999)
				checkSearch(t, indexOf(threshold, table, empty), []string{"a"})
			}
			for _, tokens := range [][]string{{"a"}, {"b"}, {"a", "b"}, {"c"}, numbered(0, 1000)} {
				for _, id := range impl.SetCandidates(x, tokens) {
					if id == 101 || id == 998 {
						t.Errorf("SetCandidates(%v, %q) has the empty set %d", x, beginning(tokens), id)
					}
				}
			}
		}
	}
}

func TestSetCandidatesOfNoTokenSets(t *testing.T) {
	for _, threshold := range prefixThresholds {
		sets := [][]string{{}, {"a"}, {"a", "b"}, {"a", "b", "c"}, {"b"}, {"aa"}, {"c"}, numbered(0, 1000), numbered(0, 1001)}
		for _, table := range tablesFor(sets) {
			x := indexOf(threshold, table, sets...)
			for _, bad := range badTokenSets {
				checkCandidates(t, x, bad)
				checkSearch(t, x, bad)
			}
			// A set and a list that are too long.
			for _, long := range [][]string{numbered(0, 1001), numbered(0, 2000), slices.Repeat([]string{"a"}, 1001)} {
				checkCandidates(t, x, long)
				checkSearch(t, x, long)
			}
			want := candidatesInSteps(x, numbered(0, 1000))
			if !slices.Contains(want, 998) || slices.Contains(want, 999) {
				t.Errorf("the candidates of 1000 tokens are %v", want)
			}
			checkCandidates(t, x, numbered(0, 1000), want...)
		}
	}
}

func TestSetCandidatesOutOfTheSizeBounds(t *testing.T) {
	// The prefixes share the token "a", since no other one is counted less.
	for size := 1; size <= 12; size++ {
		sets := make([][]string, impl.MaxSets)
		for i := range sets {
			sets[i] = append([]string{"a"}, numbered(100*i, 100*i+i)...)
		}
		tokens := append([]string{"a"}, numbered(5000, 5000+size-1)...)
		for _, threshold := range prefixThresholds {
			low, high := impl.LengthBounds(size, threshold)
			var want []int
			for i, set := range sets {
				if len(set) >= low && len(set) <= high {
					want = append(want, setIDs[i])
				}
			}
			checkCandidates(t, indexOf(threshold, nil, sets...), tokens, want...)
		}
	}
	checkCandidates(t, indexOf(500, nil, []string{"a", "b", "c"}), []string{"a"})
	checkCandidates(t, indexOf(500, nil, []string{"a", "b"}), []string{"a"}, 999)
	checkCandidates(t, indexOf(500, nil, []string{"a"}), []string{"a", "b", "c"})
	checkCandidates(t, indexOf(501, nil, []string{"a", "b"}), []string{"a"})
}

func TestSetCandidatesWithoutACommonPrefix(t *testing.T) {
	a, b := []string{"a", "c", "d"}, []string{"b", "c", "d"}
	checkCandidates(t, indexOf(700, nil, b), a)
	checkCandidates(t, indexOf(500, nil, b), a, 999)
	checkCandidates(t, indexOf(1000, nil, []string{"b", "c"}), []string{"a", "b"})
	// The table decides which tokens the prefix has.
	checkCandidates(t, indexOf(700, tableOf("a", 9, "b", 9), b), a, 999)
	checkCandidates(t, indexOf(700, tableOf("a", 9, "b", 9, "c", 9, "d", 9), b), a)
	checkCandidates(t, indexOf(1000, tableOf("a", 1), []string{"b", "c"}), []string{"a", "b"}, 999)
	checkCandidates(t, indexOf(1000, tableOf("a", 1, "b", 2, "c", 1), []string{"b", "c"}), []string{"a", "b"})
}

func TestJoinSetsValues(t *testing.T) {
	for _, threshold := range prefixThresholds {
		checkJoin(t, indexOf(threshold, nil))
		for _, set := range fewSets() {
			checkJoin(t, indexOf(threshold, nil, set))
			checkJoin(t, indexOf(threshold, nil, set, slices.Clone(set)), 998, 999)
		}
		checkJoin(t, indexOf(threshold, nil, nil, []string{}), 998, 999)
		checkJoin(t, indexOf(threshold, nil, nil, []string{"a"}, []string{}), 500, 999)
		checkJoin(t, indexOf(threshold, nil, []string{"a"}, []string{"b"}))
		checkJoin(t, indexOf(threshold, nil, nil, []string{"b"}))
		checkJoin(t, indexOf(threshold, nil, numbered(0, 1000), numbered(0, 1000)), 998, 999)
		// Sets with more than 1000 tokens meet no threshold.
		checkJoin(t, indexOf(threshold, nil, numbered(0, 1001), numbered(0, 1001)))
	}
	// The order is that of the IDs, not that of the sets.
	checkJoin(t, indexOf(1000, nil, []string{"b"}, []string{"a"}, []string{"b"}, []string{"a"}, []string{"b"}),
		100, 500, 100, 999, 101, 998, 500, 999)
	full := indexOf(1000, nil, slices.Repeat([][]string{{"a"}}, impl.MaxSets)...)
	if pairs := impl.JoinSets(full); len(pairs) != 66 || !slices.IsSortedFunc(pairs, func(p, q impl.IDPair) int {
		return 1000*(p.A-q.A) + p.B - q.B
	}) {
		t.Errorf("JoinSets(%v) = %v", full, pairs)
	}
}

func copyOfIndex(x impl.SetIndex) impl.SetIndex {
	x.Table, x.Sets = slices.Clone(x.Table), slices.Clone(x.Sets)
	for i := range x.Sets {
		x.Sets[i].Tokens = slices.Clone(x.Sets[i].Tokens)
	}
	return x
}

func areEqualIndexes(a, b impl.SetIndex) bool {
	return a.Threshold == b.Threshold && slices.Equal(a.Table, b.Table) &&
		slices.EqualFunc(a.Sets, b.Sets, func(a, b impl.IndexedSet) bool {
			return a.ID == b.ID && slices.Equal(a.Tokens, b.Tokens)
		})
}

func checkIndex(t *testing.T, name string, got impl.SetIndex, ok bool, want impl.SetIndex, wantOK bool) {
	t.Helper()
	if ok != wantOK || !areEqualIndexes(got, want) {
		t.Errorf("%s = %v, %v, want %v, %v", name, indexText(got), ok, indexText(want), wantOK)
	}
}

func checkNew(t *testing.T, table []impl.TokenCount, threshold int, wantOK bool) {
	t.Helper()
	var want impl.SetIndex
	if wantOK {
		want = impl.SetIndex{Threshold: threshold, Table: table}
	}
	x, ok := impl.NewSetIndex(table, threshold)
	checkIndex(t, "NewSetIndex", x, ok, want, wantOK)
	if len(x.Sets) != 0 {
		t.Errorf("NewSetIndex(%v, %d) has the sets %v", beginning(table), threshold, x.Sets)
	}
	if impl.IsValidSetIndex(x) != wantOK {
		t.Errorf("IsValidSetIndex(%v) = %v", indexText(x), !wantOK)
	}
}

func TestNewSetIndexValues(t *testing.T) {
	tables := [][]impl.TokenCount{nil, {}, tableOf("", 1, "A b", 7, "\xff", math.MaxInt), impl.CountTokens(fewSets()), impl.CountTokens(manySets())}
	for _, table := range tables {
		for threshold := 1; threshold <= 1000; threshold++ {
			checkNew(t, table, threshold, true)
		}
		for _, threshold := range thresholdsOutOfRange {
			checkNew(t, table, threshold, false)
		}
	}
	for _, table := range badTables() {
		for _, threshold := range slices.Concat(prefixThresholds, thresholdsOutOfRange) {
			checkNew(t, table, threshold, false)
		}
	}
}

// goodIndexes are valid, with all numbers of sets and with the least and the greatest ID.
func goodIndexes() []impl.SetIndex {
	all := []impl.SetIndex{
		indexWithIDs(0), indexWithIDs(999), indexWithIDs(0, 999), indexWithIDs(0, 1), indexWithIDs(998, 999),
		indexWithIDs(setIDs...),
		indexOf(500, nil, numbered(0, 1001), numbered(0, 5000)),
		indexOf(700, tableOf("", 1, "A b", 7, "\xff", math.MaxInt), []string{"0", "a"}),
	}
	for size := range impl.MaxSets + 1 {
		sets := fewSets()[:size]
		for _, threshold := range prefixThresholds {
			all = append(all, indexOf(threshold, impl.CountTokens(sets), sets...))
		}
	}
	return all
}

// badIndexes have every reason for which an index is not valid. If it were valid,
// most of them would have similar sets.
func badIndexes() []impl.SetIndex {
	all := []impl.SetIndex{
		{},
		{Table: tableOf("a", 1)},
		indexWithIDs(1, 1), indexWithIDs(0, 0), indexWithIDs(3, 5, 5, 7), indexWithIDs(3, 5, 7, 7),
		indexWithIDs(2, 1), indexWithIDs(5, 7, 3), indexWithIDs(7, 3, 5), indexWithIDs(3, 7, 5, 9), indexWithIDs(999, 0),
		indexWithIDs(-1), indexWithIDs(1000), indexWithIDs(-1, 0, 5), indexWithIDs(0, 5, 1000), indexWithIDs(0, 1000, 5),
		indexWithIDs(0, 1, 2, 3, 4, 5, 6, 7, 8, 9, 10, 11, 12),
		indexWithIDs(slices.Repeat([]int{3}, 5000)...),
	}
	for _, id := range idsOutOfRange {
		all = append(all, indexWithIDs(id), indexWithIDs(3, id), indexWithIDs(id, 3))
	}
	for _, bad := range badTokenSets {
		all = append(all,
			indexOf(500, nil, bad),
			indexOf(500, nil, bad, []string{"a", "b"}, []string{"a"}),
			indexOf(500, nil, []string{"a", "b"}, bad, []string{"a"}),
			indexOf(500, nil, []string{"a", "b"}, []string{"a"}, bad))
	}
	for _, table := range badTables() {
		all = append(all, indexOf(500, table), indexOf(500, table, []string{"a", "b"}, []string{}, []string{"a", "b"}))
	}
	for _, threshold := range thresholdsOutOfRange {
		all = append(all, indexOf(threshold, nil), indexOf(threshold, nil, []string{"a", "b"}, []string{}, []string{"a", "b"}))
	}
	return all
}

func TestIsValidSetIndexValues(t *testing.T) {
	for _, x := range goodIndexes() {
		if !impl.IsValidSetIndex(x) {
			t.Errorf("IsValidSetIndex(%v) = false", indexText(x))
		}
	}
	for _, x := range badIndexes() {
		if impl.IsValidSetIndex(x) {
			t.Errorf("IsValidSetIndex(%v) = true", indexText(x))
		}
	}
	for threshold := -10; threshold <= 1010; threshold++ {
		want := threshold >= 1 && threshold <= 1000
		if impl.IsValidSetIndex(indexOf(threshold, nil)) != want || impl.IsValidSetIndex(indexOf(threshold, nil, nil, []string{"a"})) != want {
			t.Errorf("with the threshold %d, not %v", threshold, want)
		}
	}
	for id := -10; id <= 1010; id++ {
		if got := impl.IsValidSetIndex(indexWithIDs(id)); got != (id >= 0 && id <= 999) {
			t.Errorf("IsValidSetIndex with the ID %d = %v", id, got)
		}
		if got := impl.IsValidSetIndex(indexWithIDs(500, id)); got != (id > 500 && id <= 999) {
			t.Errorf("IsValidSetIndex with the IDs 500 and %d = %v", id, got)
		}
	}
}

// Nothing is inserted into an index that is not valid, nor removed or found.
func TestIndexesThatAreNotValid(t *testing.T) {
	for _, x := range badIndexes() {
		ids := slices.Clone(idsOutOfRange)
		for _, set := range x.Sets[:min(len(x.Sets), 20)] {
			ids = append(ids, set.ID)
		}
		for _, id := range append(ids, setIDs...) {
			for _, tokens := range [][]string{nil, {"a", "b"}, {"b", "a"}} {
				got, ok := impl.InsertSet(x, id, tokens)
				checkIndex(t, "InsertSet", got, ok, x, false)
			}
			got, ok := impl.RemoveSet(x, id)
			checkIndex(t, "RemoveSet", got, ok, x, false)
		}
		for _, tokens := range slices.Concat(badTokenSets, [][]string{nil, {"a"}, {"a", "b"}, numbered(0, 1001)}) {
			checkCandidates(t, x, tokens)
			checkSearch(t, x, tokens)
		}
		checkJoin(t, x)
	}
}

func checkInsert(t *testing.T, x impl.SetIndex, id int, tokens []string, want impl.SetIndex, wantOK bool) {
	t.Helper()
	got, ok := impl.InsertSet(x, id, tokens)
	checkIndex(t, "InsertSet", got, ok, want, wantOK)
}

func TestInsertSetAtEachPlace(t *testing.T) {
	checkInsert(t, indexWithIDs(3, 5), 1, []string{"a", "b"}, indexWithIDs(1, 3, 5), true)
	checkInsert(t, indexWithIDs(3, 5), 4, []string{"a", "b"}, indexWithIDs(3, 4, 5), true)
	checkInsert(t, indexWithIDs(3, 5), 7, []string{"a", "b"}, indexWithIDs(3, 5, 7), true)
	checkInsert(t, indexWithIDs(), 7, []string{"a", "b"}, indexWithIDs(7), true)
	checkInsert(t, indexWithIDs(3, 5), 0, []string{"a", "b"}, indexWithIDs(0, 3, 5), true)
	checkInsert(t, indexWithIDs(3, 5), 999, []string{"a", "b"}, indexWithIDs(3, 5, 999), true)
	for size := range impl.MaxSets {
		for place := range size + 1 {
			with := indexOf(700, tableOf("a", 2), fewSets()[:size+1]...)
			without := copyOfIndex(with)
			without.Sets = slices.Delete(without.Sets, place, place+1)
			checkInsert(t, without, with.Sets[place].ID, with.Sets[place].Tokens, with, true)
		}
	}
}

func TestInsertSetOfEachSet(t *testing.T) {
	sets := slices.Concat(fewSets(), manySets())
	for _, x := range []impl.SetIndex{indexWithIDs(), indexWithIDs(3), indexWithIDs(3, 998)} {
		for _, tokens := range sets {
			want := copyOfIndex(x)
			want.Sets = append(want.Sets, impl.IndexedSet{ID: 999, Tokens: tokens})
			checkInsert(t, x, 999, tokens, want, true)
		}
		for _, bad := range badTokenSets {
			checkInsert(t, x, 999, bad, x, false)
		}
	}
}

// The edge case of the chapter: an empty set.
func TestInsertSetOfNoTokens(t *testing.T) {
	for _, empty := range [][]string{nil, {}, make([]string, 0, 4)} {
		x, _ := impl.NewSetIndex(nil, 500)
		x, ok := impl.InsertSet(x, 7, empty)
		checkIndex(t, "InsertSet", x, ok, indexWithSet(500, 7), true)
		checkSearch(t, x, nil, 7)
		checkSearch(t, x, []string{"a"})
		y, ok := impl.InsertSet(x, 3, []string{"a"})
		if !ok || len(y.Sets) != 2 {
			t.Errorf("InsertSet(%v) = %v, %v", x, y, ok)
		}
		checkSearch(t, y, nil, 7)
		checkSearch(t, y, []string{"a"}, 3)
		checkJoin(t, y)
		y, _ = impl.InsertSet(y, 5, empty)
		checkSearch(t, y, nil, 5, 7)
		checkJoin(t, y, 5, 7)
	}
}

func indexWithSet(threshold, id int, tokens ...string) impl.SetIndex {
	return impl.SetIndex{Threshold: threshold, Sets: []impl.IndexedSet{{ID: id, Tokens: tokens}}}
}

func TestInsertSetOfEachID(t *testing.T) {
	set := []string{"a", "b"}
	for id := -10; id <= 1010; id++ {
		if id >= 0 && id <= 999 {
			checkInsert(t, indexWithIDs(), id, set, indexWithIDs(id), true)
		} else {
			checkInsert(t, indexWithIDs(), id, set, indexWithIDs(), false)
		}
	}
	for _, x := range goodIndexes() {
		for _, id := range idsOutOfRange {
			checkInsert(t, x, id, set, x, false)
			checkInsert(t, x, id, nil, x, false)
		}
		// IDs that are used, also with the tokens that they have.
		for _, used := range x.Sets {
			checkInsert(t, x, used.ID, set, x, false)
			checkInsert(t, x, used.ID, used.Tokens, x, false)
			checkInsert(t, x, used.ID, nil, x, false)
		}
	}
}

func TestInsertSetIntoAFullIndex(t *testing.T) {
	full := indexOf(500, tableOf("a", 2), fewSets()[:impl.MaxSets]...)
	for id := range 1000 {
		checkInsert(t, full, id, []string{"z"}, full, false)
	}
	// A place that became free can be used.
	x, _ := impl.RemoveSet(full, 998)
	x, ok := impl.InsertSet(x, 12, []string{"z"})
	if !ok || len(x.Sets) != impl.MaxSets || x.Sets[6].ID != 12 {
		t.Errorf("InsertSet into 11 sets = %v, %v", x, ok)
	}
}

// An index does not depend on the order in which its sets were inserted.
func TestInsertSetInEveryOrder(t *testing.T) {
	want := indexOf(500, nil, fewSets()[1:6]...)
	order := make([]string, len(want.Sets))
	for i := range order {
		order[i] = string('0' + byte(i))
	}
	everyList(order, len(order), func(l []string) {
		if len(impl.UniteTokens(l, nil)) < len(order) {
			return
		}
		x, _ := impl.NewSetIndex(nil, 500)
		for _, digit := range l {
			set := want.Sets[digit[0]-'0']
			x, _ = impl.InsertSet(x, set.ID, set.Tokens)
		}
		checkIndex(t, "inserting in the order "+strings.Join(l, ""), x, true, want, true)
	})
}

func checkRemove(t *testing.T, x impl.SetIndex, id int, want impl.SetIndex, wantOK bool) {
	t.Helper()
	got, ok := impl.RemoveSet(x, id)
	checkIndex(t, "RemoveSet", got, ok, want, wantOK)
}

func TestRemoveSetValues(t *testing.T) {
	checkRemove(t, indexWithIDs(3, 5, 7), 3, indexWithIDs(5, 7), true)
	checkRemove(t, indexWithIDs(3, 5, 7), 5, indexWithIDs(3, 7), true)
	checkRemove(t, indexWithIDs(3, 5, 7), 7, indexWithIDs(3, 5), true)
	checkRemove(t, indexWithIDs(3), 3, indexWithIDs(), true)
	checkRemove(t, indexWithIDs(0, 999), 0, indexWithIDs(999), true)
	checkRemove(t, indexWithIDs(0, 999), 999, indexWithIDs(0), true)
	for id := -10; id <= 1010; id++ {
		checkRemove(t, indexWithIDs(), id, indexWithIDs(), false)
		if id != 3 && id != 7 {
			checkRemove(t, indexWithIDs(3, 7), id, indexWithIDs(3, 7), false)
		}
	}
	for _, x := range goodIndexes() {
		for _, id := range append([]int{4, 502, 997}, idsOutOfRange...) {
			checkRemove(t, x, id, x, false)
		}
		for i, set := range x.Sets {
			want := copyOfIndex(x)
			want.Sets = slices.Delete(want.Sets, i, i+1)
			checkRemove(t, x, set.ID, want, true)
		}
	}
}

func TestRemoveSetUndoesInsertSet(t *testing.T) {
	for _, x := range goodIndexes() {
		for _, id := range []int{0, 4, 50, 502, 997, 999} {
			for _, tokens := range [][]string{nil, {"a"}, {"a", "z"}} {
				if with, ok := impl.InsertSet(x, id, tokens); ok {
					checkRemove(t, with, id, x, true)
				}
			}
		}
		for _, set := range x.Sets {
			without, _ := impl.RemoveSet(x, set.ID)
			checkInsert(t, without, set.ID, set.Tokens, x, true)
			for _, id := range impl.SetCandidates(without, set.Tokens) {
				if id == set.ID {
					t.Errorf("%d is a candidate of %v", id, indexText(without))
				}
			}
			checkFound(t, without, fewSets())
		}
	}
}

// roomyIndex returns a copy of an index whose slices have unused capacity.
func roomyIndex(x impl.SetIndex) impl.SetIndex {
	x = copyOfIndex(x)
	for i := range x.Sets {
		x.Sets[i].Tokens, _ = withSpare(x.Sets[i].Tokens)
	}
	x.Table, _ = withSpareOf(x.Table, impl.TokenCount{Token: "spare", Count: 5})
	x.Sets, _ = withSpareOf(x.Sets, impl.IndexedSet{ID: 5, Tokens: []string{"spare"}})
	return x
}

// wholeIndex returns a copy of all memory of an index.
func wholeIndex(x impl.SetIndex) impl.SetIndex {
	x.Table, x.Sets = x.Table[:cap(x.Table)], slices.Clone(x.Sets[:cap(x.Sets)])
	for i, set := range x.Sets {
		x.Sets[i].Tokens = set.Tokens[:cap(set.Tokens)]
	}
	return copyOfIndex(x)
}

func spoil[E any](l []E, with E) {
	for i := range l[:cap(l)] {
		l[:cap(l)][i] = with
	}
}

func spoilIndex(x impl.SetIndex) {
	spoil(x.Table, impl.TokenCount{Token: "changed", Count: -1})
	for _, set := range x.Sets[:cap(x.Sets)] {
		spoil(set.Tokens, "changed")
	}
	spoil(x.Sets, impl.IndexedSet{ID: -7})
}

// callIndexFunctions calls all functions with an index and returns the indexes that
// they result in. It changes the other results, which shows in the arguments if
// they share memory.
func callIndexFunctions(x impl.SetIndex, tokens []string) []impl.SetIndex {
	fresh, _ := impl.NewSetIndex(x.Table, x.Threshold)
	results := []impl.SetIndex{fresh}
	for _, id := range []int{-1, 0, 4, 50, 998, 999} {
		with, _ := impl.InsertSet(x, id, tokens)
		same, _ := impl.InsertSet(x, id, []string{"b", "a"})
		without, _ := impl.RemoveSet(x, id)
		results = append(results, with, same, without)
	}
	impl.IsValidSetIndex(x)
	spoil(impl.SetCandidates(x, tokens), -7)
	spoil(impl.SearchSets(x, tokens), -7)
	spoil(impl.JoinSets(x), impl.IDPair{A: -7, B: -7})
	return results
}

func TestIndexArgumentsAreUnchanged(t *testing.T) {
	for _, original := range slices.Concat(goodIndexes(), badIndexes()) {
		for _, l := range [][]string{nil, {"a"}, {"a", "b", "c"}, {"b", "a"}, {""}} {
			x := roomyIndex(original)
			tokens, all := withSpare(l)
			whole, wantAll := wholeIndex(x), slices.Clone(all)
			first, second := callIndexFunctions(x, tokens), callIndexFunctions(x, tokens)
			var want []impl.SetIndex
			for i, y := range second {
				want = append(want, copyOfIndex(first[i]))
				spoilIndex(y)
			}
			if !areEqualIndexes(wholeIndex(x), whole) {
				t.Errorf("the index %v became %v", indexText(whole), indexText(wholeIndex(x)))
			}
			checkList(t, "the tokens of an index", all, wantAll...)
			for i, y := range first {
				if !areEqualIndexes(y, want[i]) {
					t.Errorf("the result %v became %v with that of another call", indexText(want[i]), indexText(y))
				}
			}
		}
	}
}

func TestIndexResultsHaveSeparateSlices(t *testing.T) {
	shared := []string{"a", "b"}
	x := indexOf(500, tableOf("a", 1), shared, shared, shared[:1], shared[:1], shared[1:], nil)
	results := func() []impl.SetIndex { return callIndexFunctions(x, shared) }
	for i, y := range results() {
		for j := range y.Sets {
			changed, want := results()[i], copyOfIndex(y)
			spoil(changed.Sets[j].Tokens, "changed")
			changed.Sets[j].Tokens, want.Sets[j].Tokens = nil, nil
			if !areEqualIndexes(changed, want) {
				t.Errorf("with the tokens of set %d, %v became %v", j, want, changed)
			}
		}
	}
	checkList(t, "the tokens of several sets", shared, "a", "b")
}

func TestFoundListsShareNoMemory(t *testing.T) {
	x := indexOf(500, nil, []string{"a"}, []string{"a", "b"}, []string{"a", "b"})
	for name, f := range map[string]func(impl.SetIndex, []string) []int{"SetCandidates": impl.SetCandidates, "SearchSets": impl.SearchSets} {
		first := f(x, []string{"a", "b"})
		spoil(f(x, []string{"a", "b"}), -7)
		for _, got := range [][]int{first, f(x, []string{"a", "b"})} {
			if !slices.Equal(got, []int{500, 998, 999}) {
				t.Errorf("%s = %v after a change of another result", name, got)
			}
		}
	}
	first := impl.JoinSets(x)
	spoil(impl.JoinSets(x), impl.IDPair{A: -7, B: -7})
	if want := impl.JoinSets(x); len(want) != 3 || !slices.Equal(first, want) {
		t.Errorf("JoinSets = %v and %v", first, want)
	}
}
