package tests

import (
	"slices"
	"strings"
	"testing"

	"loop.example/g01923/impl"
)

// Letters of the codes 0, 1 and 2 in either case, and the skipped ones.
const phoneticAlphabet = "aBpchW"

// lettersOfCode are the letters of the codes from 0 to 6.
var lettersOfCode = []string{"aeiouy", "bfpv", "cgjkqsxz", "dt", "l", "mn", "r"}

// noLetters are bytes of every kind that are no letters, among them the ones
// next to the letters, parts of é, and a code as a digit.
var noLetters = []string{" ", "'", "-", ".", "_", "0", "1", "9", "@", "[", "`", "{", "\t", "\n", "\x00", "\x7f", "\x80", "\xa9", "\xc3", "\xff", "é", "\u212a"}

func TestSoundCodeOfEveryByte(t *testing.T) {
	var want [256]int
	for i := range want {
		want[i] = -2
	}
	for code, letters := range lettersOfCode {
		for _, letter := range letters + strings.ToUpper(letters) {
			want[letter] = code
		}
	}
	for _, letter := range "hwHW" {
		want[letter] = -1
	}
	for i := range want {
		if got := impl.SoundCode(byte(i)); got != want[i] {
			t.Errorf("SoundCode(%d) = %d, want %d", i, got, want[i])
		}
	}
}

// checkSoundex checks each of the strings in several cases.
func checkSoundex(t *testing.T, cases []stringCase) {
	t.Helper()
	for _, c := range cases {
		lower, upper := strings.ToLower(c.s), strings.ToUpper(c.s)
		for _, s := range []string{c.s, lower, upper, upper[:1] + lower[1:], lower[:1] + upper[1:]} {
			if got := impl.Soundex(s); got != c.want {
				t.Errorf("Soundex(%q) = %q, want %q", s, got, c.want)
			}
		}
	}
}

func TestSoundexOfOrdinaryNames(t *testing.T) {
	checkSoundex(t, []stringCase{
		{"Robert", "r163"}, {"Rupert", "r163"}, {"Rubin", "r150"}, {"Smith", "s530"}, {"Smyth", "s530"},
		{"Jones", "j520"}, {"Miller", "m460"}, {"Anna", "a500"}, {"Euler", "e460"}, {"Ellery", "e460"},
		{"Gauss", "g200"}, {"Ghosh", "g200"}, {"Knuth", "k530"}, {"Kant", "k530"}, {"Lloyd", "l300"},
		{"Ladd", "l300"}, {"Lissajous", "l222"}, {"Gutierrez", "g362"}, {"Jackson", "j250"}, {"VanDeusen", "v532"},
		{"Ashcraft", "a261"}, {"Tymczak", "t522"}, {"Pfister", "p236"}, {"Lee", "l000"}, {"Yeo", "y000"},
	})
}

func TestSoundexOfNamesThatBeginWithASkippedLetter(t *testing.T) {
	checkSoundex(t, []stringCase{
		{"Honeyman", "h555"}, {"Hilbert", "h416"}, {"Heilbronn", "h416"}, {"Hugh", "h200"}, {"Hannah", "h500"},
		{"Hall", "h400"}, {"Hoare", "h600"}, {"Hrdlicka", "h634"}, {"Hsu", "h200"}, {"Ho", "h000"},
		{"h", "h000"}, {"hh", "h000"}, {"hw", "h000"}, {"hb", "h100"}, {"hbb", "h100"},
		{"hhb", "h100"}, {"hwb", "h100"}, {"hbhb", "h100"}, {"hbab", "h110"}, {"hab", "h100"},
		{"Washington", "w252"}, {"Wright", "w623"}, {"Wheeler", "w460"}, {"Wu", "w000"}, {"Webb", "w100"},
		{"w", "w000"}, {"ww", "w000"}, {"wh", "w000"}, {"wb", "w100"}, {"wbb", "w100"},
		{"wwb", "w100"}, {"whb", "w100"}, {"wbwb", "w100"}, {"wbab", "w110"}, {"wab", "w100"},
	})
}

func TestSoundexOfLettersOfTheSameCode(t *testing.T) {
	checkSoundex(t, []stringCase{
		// Next to each other.
		{"abb", "a100"}, {"abp", "a100"}, {"abpfv", "a100"}, {"abbdd", "a130"}, {"aabb", "a100"}, {"arrr", "a600"},
		// With h or w between them.
		{"abhb", "a100"}, {"abwp", "a100"}, {"abhwhb", "a100"}, {"Ashcroft", "a261"}, {"amhnwm", "a500"},
		// With a vowel between them, alone or beside h or w.
		{"abab", "a110"}, {"abyb", "a110"}, {"abeiop", "a110"}, {"abahb", "a110"}, {"abhab", "a110"}, {"abwawb", "a110"},
		// With a letter of another code between them.
		{"abdb", "a131"}, {"abhdhb", "a131"},
		// The first letter's code.
		{"bb", "b000"}, {"bp", "b000"}, {"bpfv", "b000"}, {"bhb", "b000"}, {"bwhp", "b000"}, {"bab", "b100"},
		{"byb", "b100"}, {"bahb", "b100"}, {"bhab", "b100"}, {"bdb", "b310"}, {"scab", "s100"}, {"shcwab", "s100"},
	})
}

func TestSoundexOfFewerAndMoreThanThreeCodes(t *testing.T) {
	checkSoundex(t, []stringCase{
		{"a", "a000"}, {"aeiouy", "a000"}, {"ahw", "a000"},
		{"ab", "a100"}, {"abd", "a130"}, {"abdl", "a134"}, {"abdlm", "a134"}, {"abdlmrc", "a134"},
		{"abcdlmr", "a123"}, {"lmrbcd", "l561"}, {"abababab", "a111"}, {"abdlllllb", "a134"}, {"abdlah", "a134"},
		{"a" + strings.Repeat("e", 10000) + "r", "a600"},
		{"a" + strings.Repeat("rh", 10000) + "abad", "a613"},
		{strings.Repeat("abhdwlymR", 10000), "a134"},
	})
}

func TestSoundexOfOneLetter(t *testing.T) {
	for letter := byte('a'); letter <= 'z'; letter++ {
		checkSoundex(t, []stringCase{{string(letter), string(letter) + "000"}})
	}
}

// stringsThatAreNoNames returns the empty string, and strings that have a byte
// that is no letter at any place, even behind the third digit.
func stringsThatAreNoNames() []string {
	out := []string{"", "  ", "o neil", "o'neil", "9a", "Anna Smith", "Müller", "12345"}
	for _, c := range noLetters {
		out = append(out, c, c+c, c+"h", "h"+c, c+"Robert", "Rob"+c+"ert", "Robert"+c, strings.Repeat("rab", 1000)+c)
	}
	return out
}

func TestSoundexOfStringsThatAreNoNames(t *testing.T) {
	for _, s := range stringsThatAreNoNames() {
		if got := impl.Soundex(s); got != "" {
			t.Errorf("Soundex(%q) = %q", s, got)
		}
	}
	all := everyByte()
	for i := range len(all) {
		want := impl.SoundCode(all[i]) != -2
		for _, s := range []string{all[i : i+1], "Rob" + all[i:i+1], all[i:i+1] + "rob", "Robert" + all[i:i+1] + "h"} {
			if got := impl.Soundex(s); (got != "") != want {
				t.Errorf("Soundex(%q) = %q", s, got)
			}
		}
	}
	if got := impl.Soundex(all); got != "" {
		t.Errorf("Soundex of every byte = %q", got)
	}
}

// soundexInSteps removes what is skipped, then repeated codes, then the first
// letter's code and the vowels. The string consists of letters.
func soundexInSteps(s string) string {
	s = strings.ToLower(s)
	rest := strings.NewReplacer("h", "", "w", "").Replace(s[1:])
	var codes []int
	for _, letter := range []byte(s[:1] + rest) {
		codes = append(codes, impl.SoundCode(letter))
	}
	codes = slices.Compact(codes)[1:]
	out := s[:1]
	for _, code := range codes {
		if code > 0 {
			out += string("0123456"[code])
		}
	}
	return (out + "000")[:4]
}

func TestSoundexOfEveryShortName(t *testing.T) {
	everyString(phoneticAlphabet, 7, func(s string) {
		if s == "" {
			return
		}
		if got, want := impl.Soundex(s), soundexInSteps(s); got != want {
			t.Errorf("Soundex(%q) = %q, want %q", s, got, want)
		}
	})
	everyString("ahbdlr", 6, func(s string) {
		if got, want := impl.Soundex("w"+s), soundexInSteps("w"+s); got != want {
			t.Errorf("Soundex(%q) = %q, want %q", "w"+s, got, want)
		}
	})
}

func checkAlike(t *testing.T, a, b string, want bool) {
	t.Helper()
	if got := impl.SoundsAlike(a, b); got != want {
		t.Errorf("SoundsAlike(%q, %q) = %v", a, b, got)
	}
	if got := impl.SoundsAlike(b, a); got != want {
		t.Errorf("SoundsAlike(%q, %q) = %v", b, a, got)
	}
}

func TestSoundsAlikeValues(t *testing.T) {
	for _, c := range [][2]string{
		{"smith", "Smyth"}, {"ROBERT", "rupert"}, {"Robert", "Robert"}, {"Ashcraft", "Ashcroft"}, {"h", "HW"},
		{"Lee", "l"}, {"Hannah", "hn"}, {"ab", "aba"}, {"abdl", "abdlmr"},
	} {
		checkAlike(t, c[0], c[1], true)
	}
	for _, c := range [][2]string{
		{"smith", "jones"}, {"Robert", "Hobert"}, {"Kathy", "Cathy"}, {"Rubin", "Rupert"}, {"h", "w"},
		{"Lee", "Lily"}, {"abd", "adb"}, {"abdl", "abdm"}, {"ab", "abab"},
	} {
		checkAlike(t, c[0], c[1], false)
	}
}

func TestSoundsAlikeOfStringsWithoutACode(t *testing.T) {
	for _, s := range stringsThatAreNoNames() {
		for _, other := range []string{"", " ", "é", "9a", "a", "h", "Robert", "o000", s} {
			checkAlike(t, s, other, false)
		}
	}
}

// The promise: the similarity is symmetric and holds for equal non-empty arguments.
func TestSoundsAlikeIsEqualityOfSoundex(t *testing.T) {
	all := stringsOf("abPhW ", 3)
	for _, a := range all {
		for _, b := range all {
			checkAlike(t, a, b, impl.Soundex(a) == impl.Soundex(b) && impl.Soundex(a) != "")
		}
	}
	everyString(phoneticAlphabet, 5, func(s string) {
		checkAlike(t, s, s, s != "")
		checkAlike(t, s, strings.ToUpper(s), s != "")
	})
}

func TestSoundKeysValues(t *testing.T) {
	for _, c := range []struct {
		s    string
		want []string
	}{
		{"Robert Rupert Lee 9", []string{"l000", "r163"}},
		{"Anna Smith", []string{"a500", "s530"}},
		{"Smith, Anna", []string{"a500", "s530"}},
		{"Anna", []string{"a500"}},
		{"h", []string{"h000"}},
		{"Wu Ho", []string{"h000", "w000"}},
		// Tokens in ascending order whose keys are not.
		{"aza abd aba", []string{"a100", "a130", "a200"}},
		{"ac ad al am ar b", []string{"a200", "a300", "a400", "a500", "a600", "b000"}},
		{"ab ac ada af", []string{"a100", "a200", "a300"}},
		// Words with the same code.
		{"Smith Smyth SMITH", []string{"s530"}},
		{"Robert Lee Rupert Lea", []string{"l000", "r163"}},
		// Marks, which join or separate words.
		{"O'Neil", []string{"o540"}},
		{"Anna-Maria", []string{"a500", "m600"}},
		{"Müller", []string{"l600", "m000"}},
		{"\xffB\x80a\xc3", []string{"a000", "b000"}},
		// Words with digits have no key.
		{"4 a4 4a a4a Lee", []string{"l000"}},
		{"Lee Robert2 3Rupert", []string{"l000"}},
		{strings.Repeat("Rupert Lee, Robert ", 1000), []string{"l000", "r163"}},
	} {
		checkList(t, "SoundKeys of "+c.s, impl.SoundKeys(c.s), c.want...)
	}
}

func TestSoundKeysOfTextWithoutNames(t *testing.T) {
	for _, s := range []string{
		"", " ", "     ", "'", "''", "-", "., ;!", " ' - ' ", "\t\n", "\x00", "é日", "\xff\x80",
		"9", "12 345", "a4", "4a", "r2d2 c3po", "555-1234", "0'a",
	} {
		checkList(t, "SoundKeys of "+s, impl.SoundKeys(s))
	}
}

func TestSoundKeysAreTheCodesOfTokens(t *testing.T) {
	everyString("abpH 4'", 6, func(s string) {
		var want []string
		for _, token := range impl.Tokens(s) {
			if key := impl.Soundex(token); key != "" {
				want = append(want, key)
			}
		}
		slices.Sort(want)
		checkList(t, "SoundKeys of "+s, impl.SoundKeys(s), slices.Compact(want)...)
	})
}

// The promise: SoundKeys are sets whose similarities are symmetric, lie within
// 0 to 1000, and are 1000 for equal non-empty names.
func TestSimilaritiesOfSoundKeys(t *testing.T) {
	everyPairOfLists([]string{"Smith", "smyth", "Lee", "h", "a4"}, 3, func(a, b []string) {
		keysA, keysB := impl.SoundKeys(strings.Join(a, " ")), impl.SoundKeys(strings.Join(b, " "))
		if !impl.IsTokenSet(keysA) {
			t.Errorf("SoundKeys of %q = %q", a, keysA)
		}
		for _, f := range similarities {
			got := f.of(keysA, keysB)
			if got < 0 || got > 1000 || got != f.of(keysB, keysA) {
				t.Errorf("%s(%q, %q) = %d, and %d the other way round", f.name, keysA, keysB, got, f.of(keysB, keysA))
			}
			if slices.Equal(keysA, keysB) && got != 1000 {
				t.Errorf("%s(%q, %q) = %d", f.name, keysA, keysB, got)
			}
		}
	})
}

func TestSoundKeysResultsAreNew(t *testing.T) {
	impl.SoundKeys("Smith Lee")[0] = "changed"
	checkList(t, "the second result", impl.SoundKeys("Smith Lee"), "l000", "s530")
}
