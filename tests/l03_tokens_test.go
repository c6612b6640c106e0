package tests

import (
	"math"
	"slices"
	"sort"
	"strings"
	"testing"

	"loop.example/g01923/impl"
)

// checkList quotes the name, which may contain the argument of the call.
func checkList(t *testing.T, name string, got []string, want ...string) {
	t.Helper()
	if !slices.Equal(got, want) {
		t.Errorf("%q: %q, want %q", name, got, want)
	}
}

// everyList calls visit with every list of at most most of the elements. The
// list is valid only during the call.
func everyList(elements []string, most int, visit func([]string)) {
	list := make([]string, 0, most)
	var extend func()
	extend = func() {
		visit(list)
		if len(list) == most {
			return
		}
		for _, e := range elements {
			list = append(list, e)
			extend()
			list = list[:len(list)-1]
		}
	}
	extend()
}

// everyPairOfLists calls visit with every two lists of at most most of the elements.
func everyPairOfLists(elements []string, most int, visit func(a, b []string)) {
	var lists [][]string
	everyList(elements, most, func(l []string) { lists = append(lists, slices.Clone(l)) })
	for _, a := range lists {
		for _, b := range lists {
			visit(a, b)
		}
	}
}

func countOf(l []string, s string) int {
	n := 0
	for _, e := range l {
		if e == s {
			n++
		}
	}
	return n
}

// members returns those of the candidates, which are strictly ascending, that
// keep accepts.
func members(candidates []string, keep func(string) bool) []string {
	var out []string
	for _, c := range candidates {
		if keep(c) {
			out = append(out, c)
		}
	}
	return out
}

// Lists that are not token sets, with repetitions and out of order.
var anyListElements = []string{"", "B", "a", "aa", "é"}

func TestMaxGramValue(t *testing.T) {
	if impl.MaxGram != 3 {
		t.Error(impl.MaxGram)
	}
}

func TestTokensValues(t *testing.T) {
	for _, c := range []struct {
		s    string
		want []string
	}{
		{"Smith, Anna smith", []string{"anna", "smith"}},
		{"anna", []string{"anna"}},
		{"b a", []string{"a", "b"}},
		{"b b b", []string{"b"}},
		{"O'Neil oneil ONEIL'", []string{"oneil"}},
		{"Anna-Maria", []string{"anna", "maria"}},
		{"b2 10 9 b10 B a", []string{"10", "9", "a", "b", "b10", "b2"}},
		{"ab a abc", []string{"a", "ab", "abc"}},
		{"z\ty\nx\x00w", []string{"w", "x", "y", "z"}},
		{"Zoé Müller", []string{"ller", "m", "zo"}},
		{"\xffB\x80a\xc3", []string{"a", "b"}},
		{strings.Repeat("Ab-c ", 1000), []string{"ab", "c"}},
	} {
		checkList(t, "Tokens of "+c.s, impl.Tokens(c.s), c.want...)
	}
}

func TestTokensOfTextWithoutWords(t *testing.T) {
	for _, s := range []string{"", " ", "     ", "'", "''''", "-", "., ;!", " ' - ' ", "\t\n", "\x00", "é日", "\xff\x80"} {
		if got := impl.Tokens(s); len(got) != 0 {
			t.Errorf("Tokens(%q) = %q", s, got)
		}
	}
}

func TestTokensAreTheWordsOfNormalize(t *testing.T) {
	everyString("aB7 '-\xc3", 6, func(s string) {
		words := nonEmptyParts(impl.Normalize(s))
		got := impl.Tokens(s)
		if !impl.IsTokenSet(got) {
			t.Errorf("Tokens(%q) = %q", s, got)
		}
		for _, word := range words {
			if countOf(got, word) != 1 {
				t.Errorf("Tokens(%q) = %q, want %q once", s, got, word)
			}
		}
		for _, token := range got {
			if countOf(words, token) == 0 {
				t.Errorf("Tokens(%q) = %q", s, got)
			}
		}
	})
}

// The promise: tokens depend neither on case nor on marks.
func TestTokensDependOnNeitherCaseNorMarks(t *testing.T) {
	everyString("aZ 7'-", 5, func(s string) {
		want := impl.Tokens(s)
		for _, same := range []string{
			strings.ToUpper(s), strings.ToLower(s), impl.FoldCase(s), impl.Normalize(s),
			"'" + s + "'", strings.ReplaceAll(s, "a", "a'"), strings.ReplaceAll(s, "'", ""),
			"-" + s + ",", strings.ReplaceAll(s, " ", ", "), strings.ReplaceAll(s, "-", " "),
			strings.ReplaceAll(s, " ", "\xc3\xa9"), strings.ReplaceAll(s, "-", "\x00\xff"),
		} {
			checkList(t, "Tokens of "+same+" for "+s, impl.Tokens(same), want...)
		}
	})
}

// The promise: tokens do not depend on the order of words.
func TestTokensDoNotDependOnTheOrderOfWords(t *testing.T) {
	everyList([]string{"Anna", "b", "O'Neil", "7", "anna"}, 5, func(words []string) {
		sorted := slices.Clone(words)
		sort.Strings(sorted)
		want := impl.Tokens(strings.Join(sorted, " "))
		checkList(t, "Tokens of "+strings.Join(words, " "), impl.Tokens(strings.Join(words, " ")), want...)
		checkList(t, "Tokens of "+strings.Join(words, ", "), impl.Tokens(strings.Join(words, ", ")), want...)
	})
}

func TestIsTokenSetValues(t *testing.T) {
	for _, l := range [][]string{
		nil, {}, {"a"}, {"0"}, {"z9"}, {"anna", "smith"}, {"0", "10", "9", "a", "aa", "ab", "b", "z"},
		{strings.Repeat("a", 1000)},
	} {
		if !impl.IsTokenSet(l) {
			t.Errorf("IsTokenSet(%q) = false", l)
		}
	}
	for _, l := range [][]string{
		{""}, {"", "a"}, {"a", ""}, {"A"}, {"aB"}, {"a", "B"}, {"a b"}, {" "}, {"a "}, {"o'neil"}, {"a-b"}, {"é"}, {"\xff"}, {"a\x00"},
		{"a", "a"}, {"b", "a"}, {"a", "c", "b"}, {"a", "b", "b"}, {"b", "b", "c"}, {"9", "10"}, {"aa", "a"}, {"a", "b", "c", "a"},
		{"a", "b", "c\n"},
	} {
		if impl.IsTokenSet(l) {
			t.Errorf("IsTokenSet(%q) = true", l)
		}
	}
}

func TestIsTokenSetBytes(t *testing.T) {
	all := everyByte()
	for i := range len(all) {
		c := all[i : i+1]
		want := strings.Contains("abcdefghijklmnopqrstuvwxyz0123456789", c)
		for _, token := range []string{c, "a" + c, c + "a", "a" + c + "a"} {
			if got := impl.IsTokenSet([]string{token}); got != want {
				t.Errorf("IsTokenSet of %q = %v", token, got)
			}
		}
	}
}

func TestIsTokenSetOfEveryList(t *testing.T) {
	everyList([]string{"", "0", "B", "a", "aa", "b"}, 5, func(l []string) {
		want := countOf(l, "") == 0 && countOf(l, "B") == 0
		for i := range l {
			want = want && (i == 0 || l[i-1] < l[i])
		}
		if got := impl.IsTokenSet(l); got != want {
			t.Errorf("IsTokenSet(%q) = %v", l, got)
		}
	})
}

func TestQGramsValues(t *testing.T) {
	checkList(t, "QGrams", impl.QGrams("abab", 2), "ab", "ab", "ba")
	checkList(t, "QGrams", impl.QGrams("cba", 1), "a", "b", "c")
	checkList(t, "QGrams", impl.QGrams("aaaa", 3), "aaa", "aaa")
	checkList(t, "QGrams", impl.QGrams("abc", 3), "abc")
	checkList(t, "QGrams", impl.QGrams("a", 1), "a")
	checkList(t, "QGrams", impl.QGrams("b A", 2), " A", "b ")
	checkList(t, "QGrams", impl.QGrams("é\xff", 2), "\xa9\xff", "\xc3\xa9")
	checkList(t, "QGrams", impl.QGrams("\x00\x00\x00", 2), "\x00\x00", "\x00\x00")
}

func TestQGramsLimits(t *testing.T) {
	for _, q := range []int{math.MinInt, math.MinInt + 1, -3, -1, 0, impl.MaxGram + 1, 5, 6, math.MaxInt - 1, math.MaxInt} {
		for _, s := range []string{"", "a", "abc", "abcdef"} {
			if got := impl.QGrams(s, q); len(got) != 0 {
				t.Errorf("QGrams(%q, %d) = %q", s, q, got)
			}
		}
	}
	for q := 1; q <= impl.MaxGram; q++ {
		for length := range 10 {
			s := "abcdefghij"[:length]
			if got := len(impl.QGrams(s, q)); got != max(0, length-q+1) {
				t.Errorf("QGrams(%q, %d) has %d elements", s, q, got)
			}
		}
	}
}

func TestQGramsAreAllSubstrings(t *testing.T) {
	everyString("ba\xc3 ", 6, func(s string) {
		for q := 1; q <= impl.MaxGram; q++ {
			var want []string
			for end := q; end <= len(s); end++ {
				want = append(want, s[end-q:end])
			}
			sort.Strings(want)
			checkList(t, "QGrams of "+s, impl.QGrams(s, q), want...)
		}
	})
}

func TestCommonTokensValues(t *testing.T) {
	checkList(t, "CommonTokens", impl.CommonTokens([]string{"a", "b", "c"}, []string{"b", "d"}), "b")
	checkList(t, "CommonTokens", impl.CommonTokens(nil, nil))
	checkList(t, "CommonTokens", impl.CommonTokens([]string{"a"}, nil))
	checkList(t, "CommonTokens", impl.CommonTokens([]string{}, []string{"a"}))
	checkList(t, "CommonTokens", impl.CommonTokens([]string{"a"}, []string{"A"}))
	checkList(t, "CommonTokens", impl.CommonTokens([]string{"c", "a", "c", "b", "a"}, []string{"a", "x", "c", "a", "c"}), "a", "c")
	checkList(t, "CommonTokens", impl.CommonTokens([]string{"é", "", "B b"}, []string{"B b", "é", ""}), "", "B b", "é")
}

func TestUniteTokensValues(t *testing.T) {
	checkList(t, "UniteTokens", impl.UniteTokens([]string{"a", "b", "c"}, []string{"b", "d"}), "a", "b", "c", "d")
	checkList(t, "UniteTokens", impl.UniteTokens(nil, nil))
	checkList(t, "UniteTokens", impl.UniteTokens([]string{"b", "a", "b"}, nil), "a", "b")
	checkList(t, "UniteTokens", impl.UniteTokens([]string{}, []string{"b", "a", "b"}), "a", "b")
	checkList(t, "UniteTokens", impl.UniteTokens([]string{"a"}, []string{"A"}), "A", "a")
	checkList(t, "UniteTokens", impl.UniteTokens([]string{"é", "z"}, []string{"", "z", "B b"}), "", "B b", "z", "é")
}

func TestTokenSetsOfAnyLists(t *testing.T) {
	everyPairOfLists(anyListElements, 3, func(a, b []string) {
		common := members(anyListElements, func(s string) bool { return slices.Contains(a, s) && slices.Contains(b, s) })
		checkList(t, "CommonTokens", impl.CommonTokens(a, b), common...)
		union := members(anyListElements, func(s string) bool { return slices.Contains(a, s) || slices.Contains(b, s) })
		checkList(t, "UniteTokens", impl.UniteTokens(a, b), union...)
	})
}

func TestCommonGramsValues(t *testing.T) {
	for _, c := range []struct {
		a, b []string
		want int
	}{
		{nil, nil, 0},
		{[]string{"ab"}, nil, 0},
		{[]string{}, []string{"ab", "ab"}, 0},
		{[]string{"ab", "ab", "ba"}, []string{"ab", "bc"}, 1},
		{[]string{"ab", "ab"}, []string{"ab", "ab", "ab"}, 2},
		{[]string{"ab", "ba", "ab"}, []string{"ba", "ab", "x", "ab"}, 3},
		{[]string{"", "", "é"}, []string{"é", "", "é"}, 2},
		{[]string{"a"}, []string{"A"}, 0},
	} {
		if got := impl.CommonGrams(c.a, c.b); got != c.want {
			t.Errorf("CommonGrams(%q, %q) = %d, want %d", c.a, c.b, got, c.want)
		}
	}
}

func TestCommonGramsOfAnyLists(t *testing.T) {
	everyPairOfLists([]string{"", "ab", "b"}, 4, func(a, b []string) {
		want := 0
		for _, s := range []string{"", "ab", "b"} {
			want += min(countOf(a, s), countOf(b, s))
		}
		if got := impl.CommonGrams(a, b); got != want {
			t.Errorf("CommonGrams(%q, %q) = %d, want %d", a, b, got, want)
		}
	})
}

func TestEqualTokensOfAnyLists(t *testing.T) {
	if !impl.EqualTokens(nil, []string{}) || !impl.EqualTokens([]string{}, nil) || !impl.EqualTokens(nil, nil) {
		t.Error("a nil list and an empty one")
	}
	everyPairOfLists(anyListElements, 3, func(a, b []string) {
		want := len(a) == len(b)
		for i := 0; want && i < len(a); i++ {
			want = a[i] == b[i]
		}
		if got := impl.EqualTokens(a, b); got != want {
			t.Errorf("EqualTokens(%q, %q) = %v", a, b, got)
		}
	})
}

// withSpare returns a copy of l with unused capacity, and all of its memory.
func withSpare(l []string) ([]string, []string) {
	return withSpareOf(l, "spare")
}

func withSpareOf[E any](l []E, spare E) ([]E, []E) {
	all := append(slices.Clone(l), spare, spare, spare, spare)
	return all[:len(l)], all
}

func TestTokenArgumentsAreUnchanged(t *testing.T) {
	everyPairOfLists([]string{"b", "a", "B"}, 3, func(a, b []string) {
		listA, allA := withSpare(a)
		listB, allB := withSpare(b)
		wantA, wantB := slices.Clone(allA), slices.Clone(allB)
		results := [][]string{impl.CommonTokens(listA, listB), impl.UniteTokens(listA, listB)}
		impl.CommonGrams(listA, listB)
		impl.EqualTokens(listA, listB)
		impl.IsTokenSet(listA)
		// A change of a result's memory shows here if an argument shares it.
		for _, l := range results {
			for i := range l[:cap(l)] {
				l[:cap(l)][i] = "changed"
			}
		}
		if !slices.Equal(allA, wantA) || !slices.Equal(allB, wantB) {
			t.Errorf("%q and %q became %q and %q", wantA, wantB, allA, allB)
		}
	})
}

func TestTokenResultsAreNew(t *testing.T) {
	for _, f := range []func() []string{
		func() []string { return impl.Tokens("b a") },
		func() []string { return impl.QGrams("abc", 2) },
		func() []string { return impl.CommonTokens([]string{"a"}, []string{"a"}) },
		func() []string { return impl.UniteTokens([]string{"a"}, []string{"b"}) },
	} {
		want := slices.Clone(f())
		f()[0] = "changed"
		checkList(t, "the second result", f(), want...)
	}
}
