package tests

import (
	"strings"
	"testing"

	"loop.example/g01923/impl"
)

// Every kind of byte that the chapter tells apart, and parts of é and of the
// sign ’, which looks like an apostrophe.
const normalizationAlphabet = "aZ7 '-\t\xc3\xa9\xe2"

const wordBytes = "0123456789ABCDEFGHIJKLMNOPQRSTUVWXYZabcdefghijklmnopqrstuvwxyz"

type stringCase struct{ s, want string }

func checkStrings(t *testing.T, name string, f func(string) string, cases []stringCase) {
	t.Helper()
	for _, c := range cases {
		if got := f(c.s); got != c.want {
			t.Errorf("%s(%q) = %q, want %q", name, c.s, got, c.want)
		}
	}
}

// nonEmptyParts returns what is between the spaces of s.
func nonEmptyParts(s string) []string {
	var parts []string
	for _, part := range strings.Split(s, " ") {
		if part != "" {
			parts = append(parts, part)
		}
	}
	return parts
}

func TestMaxTextValue(t *testing.T) {
	if impl.MaxText != 40 {
		t.Error(impl.MaxText)
	}
}

func TestIsTextBytes(t *testing.T) {
	all := everyByte()
	for i := range len(all) {
		want := 32 <= i && i <= 126
		for _, s := range []string{all[i : i+1], "ab" + all[i:i+1], all[i:i+1] + "ab", "a" + all[i:i+1] + "b"} {
			if got := impl.IsText(s); got != want {
				t.Errorf("IsText(%q) = %v", s, got)
			}
		}
	}
	for _, s := range []string{"é", "aé", "日本", "\xed\xa0\x80", "\xf4\x90\x80\x80", "\uFFFD", "a\u0301"} {
		if impl.IsText(s) {
			t.Errorf("IsText(%q)", s)
		}
	}
}

func TestIsTextLength(t *testing.T) {
	for length := range 200 {
		want := length <= impl.MaxText
		for _, part := range []string{" ", "a", "~", "'"} {
			s := strings.Repeat(part, length)
			if got := impl.IsText(s); got != want {
				t.Errorf("IsText(%q) = %v", s, got)
			}
		}
	}
	last := strings.Repeat("a", impl.MaxText-1)
	if impl.IsText(last+"\x1f") || impl.IsText(last+"\x7f") || !impl.IsText(last+"~") || !impl.IsText(last+" ") {
		t.Error("the last byte of a text of MaxText bytes")
	}
}

func TestFoldCaseValues(t *testing.T) {
	checkStrings(t, "FoldCase", impl.FoldCase, []stringCase{
		{"", ""},
		{"   ", "   "},
		{"Anna O'Neil", "anna o'neil"},
		{"ABCDEFGHIJKLMNOPQRSTUVWXYZ", "abcdefghijklmnopqrstuvwxyz"},
		{"abcxyz0123456789", "abcxyz0123456789"},
		{"É\u212aİΣＡ", "É\u212aİΣＡ"},
		{"\xc3A\xffZ\x80", "\xc3a\xffz\x80"},
	})
}

func TestFoldCaseBytes(t *testing.T) {
	all := everyByte()
	want := []byte(all)
	for c := 'A'; c <= 'Z'; c++ {
		want[c] = byte(c - 'A' + 'a')
	}
	if got := impl.FoldCase(all); got != string(want) {
		t.Errorf("FoldCase of every byte = %q", got)
	}
}

func TestStripMarksValues(t *testing.T) {
	checkStrings(t, "StripMarks", impl.StripMarks, []stringCase{
		{"", ""},
		{"   ", "   "},
		{"O'Neil, A.", "ONeil  A "},
		{"'", ""},
		{"''a''b''", "ab"},
		{"a ' b", "a  b"},
		{"a-b_c", "a b c"},
		{"O`Neil", "O Neil"},
		{"O’Neil", "O   Neil"},
		{"Zoé", "Zo  "},
		{"日", "   "},
		{"a\t\n\x00b", "a   b"},
		{"\xff'\x80a", "  a"},
		{"\uFFFD", "   "},
	})
}

func TestStripMarksBytes(t *testing.T) {
	all := everyByte()
	for i := range len(all) {
		c := all[i : i+1]
		want := " "
		switch {
		case c == "'":
			want = ""
		case strings.Contains(wordBytes, c):
			want = c
		}
		if got := impl.StripMarks(c); got != want {
			t.Errorf("StripMarks(%q) = %q, want %q", c, got, want)
		}
		if got := impl.StripMarks("x" + c + "Y"); got != "x"+want+"Y" {
			t.Errorf("StripMarks(%q) = %q", "x"+c+"Y", got)
		}
	}
}

func TestCollapseSpacesValues(t *testing.T) {
	checkStrings(t, "CollapseSpaces", impl.CollapseSpaces, []stringCase{
		{"", ""},
		{" ", ""},
		{"     ", ""},
		{"a", "a"},
		{"  a   b ", "a b"},
		{"a b", "a b"},
		{"   a", "a"},
		{"a   ", "a"},
		{"A ' -  b", "A ' - b"},
		{"\t a\t\t b\n", "\t a\t\t b\n"},
		{" \u00a0 \u2003  ", "\u00a0 \u2003"},
		{"  \xff  \x80 ", "\xff \x80"},
	})
}

func TestCollapseSpacesJoinsParts(t *testing.T) {
	everyString(" a\t\xc3\xa0", 6, func(s string) {
		want := strings.Join(nonEmptyParts(s), " ")
		if got := impl.CollapseSpaces(s); got != want {
			t.Errorf("CollapseSpaces(%q) = %q, want %q", s, got, want)
		}
	})
}

func TestNormalizeValues(t *testing.T) {
	checkStrings(t, "Normalize", impl.Normalize, []stringCase{
		{"", ""},
		{"     ", ""},
		{"--", ""},
		{"'", ""},
		{"O'Neil,  ANNA", "oneil anna"},
		{"D'ARCY-O'Brien", "darcy obrien"},
		{"'Neil O'", "neil o"},
		{"a ' b", "a b"},
		{"  12-34/56  ", "12 34 56"},
		{"a\tb\r\nc", "a b c"},
		{"Zoé Müller", "zo m ller"},
		{"O’Neil", "o neil"},
		{"\xffA\x80\x80B\xc3", "a b"},
		{strings.Repeat("A'-", 1000), strings.Repeat("a ", 999) + "a"},
	})
}

// The promise: normalizing twice changes nothing.
func TestNormalizeIsIdempotent(t *testing.T) {
	everyString(normalizationAlphabet, 5, func(s string) {
		once := impl.Normalize(s)
		if twice := impl.Normalize(once); twice != once {
			t.Errorf("Normalize(%q) = %q, and of that %q", s, once, twice)
		}
	})
	all := everyByte()
	everyString(all, 2, func(s string) {
		once := impl.Normalize(s + all + s)
		if twice := impl.Normalize(once); twice != once {
			t.Errorf("Normalize(%q) = %q, and of that %q", s+all+s, once, twice)
		}
	})
}

func TestNormalizeIsTheThreeSteps(t *testing.T) {
	everyString(normalizationAlphabet, 5, func(s string) {
		got := impl.Normalize(s)
		if want := impl.CollapseSpaces(impl.StripMarks(impl.FoldCase(s))); got != want {
			t.Errorf("Normalize(%q) = %q, want %q", s, got, want)
		}
		if strings.Trim(got, "abcdefghijklmnopqrstuvwxyz0123456789 ") != "" || strings.Join(nonEmptyParts(got), " ") != got {
			t.Errorf("Normalize(%q) = %q", s, got)
		}
	})
}

// The part of the promise on tokens that holds for the words of Normalize.
func TestNormalizeDependsOnNeitherCaseNorMarks(t *testing.T) {
	everyString("aZ 7'-", 5, func(s string) {
		want := impl.Normalize(s)
		for _, same := range []string{
			strings.ToUpper(s), strings.ToLower(s), "'" + s + "'", strings.ReplaceAll(s, "a", "a'"),
			"-" + s + ",", strings.ReplaceAll(s, " ", " \xc3\xa9 "), strings.ReplaceAll(s, "-", "."),
		} {
			if got := impl.Normalize(same); got != want {
				t.Errorf("Normalize(%q) = %q, but %q of %q", same, got, want, s)
			}
		}
	})
}

func TestIsNormalValues(t *testing.T) {
	for _, s := range []string{"", "a", "0", "oneil anna", "a b c", "12 34", strings.Repeat("a", 40), strings.Repeat("a b ", 10)[:39]} {
		if !impl.IsNormal(s) {
			t.Errorf("IsNormal(%q) = false", s)
		}
	}
	for _, s := range []string{
		" ", "    ", "Oneil", "o'neil", "a ", " a", "a  b", "a-b", "a\tb", "a\n", "\x00", "zo\xc3\xa9", "\xff", "a\x7f",
		strings.Repeat("a", 41), strings.Repeat("a b ", 11)[:41], strings.Repeat("a", 1000),
	} {
		if impl.IsNormal(s) {
			t.Errorf("IsNormal(%q) = true", s)
		}
	}
}

func TestIsNormalHoldsForResults(t *testing.T) {
	everyString(normalizationAlphabet, 5, func(s string) {
		normal := impl.Normalize(s)
		if !impl.IsNormal(normal) {
			t.Errorf("IsNormal(Normalize(%q)) = false", s)
		}
		if got := impl.IsNormal(s); got != (normal == s) {
			t.Errorf("IsNormal(%q) = %v", s, got)
		}
	})
	for length := range 100 {
		s := impl.Normalize(strings.Repeat("A", length))
		if got := impl.IsNormal(s); got != (length <= impl.MaxText) {
			t.Errorf("IsNormal(%q) = %v", s, got)
		}
	}
}

func TestInitialsValues(t *testing.T) {
	checkStrings(t, "Initials", impl.Initials, []stringCase{
		{"", ""},
		{"     ", ""},
		{"--", ""},
		{"''", ""},
		{"Smith, Anna B.", "sab"},
		{"O'Neil", "o"},
		{"'Neil O'", "no"},
		{"Anna-Maria O'Neil", "amo"},
		{"b a b", "bab"},
		{"42 Main St", "4ms"},
		{"a\tb\nc", "abc"},
		{"Élan Zoé x", "lzx"},
		{"\xff\xfe", ""},
		{"\x80A\xffB", "ab"},
		{strings.Repeat("Ab ", 100), strings.Repeat("a", 100)},
	})
}

func TestInitialsAreFirstBytesOfWords(t *testing.T) {
	everyString(normalizationAlphabet, 5, func(s string) {
		want := ""
		for _, word := range nonEmptyParts(impl.Normalize(s)) {
			want += word[:1]
		}
		if got := impl.Initials(s); got != want {
			t.Errorf("Initials(%q) = %q, want %q", s, got, want)
		}
	})
}
