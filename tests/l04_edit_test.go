package tests

import (
	"math"
	"regexp"
	"slices"
	"strings"
	"testing"

	"loop.example/g01923/impl"
)

var distanceCases = []struct {
	a, b       string
	edit, swap int
}{
	{"", "", 0, 0},
	{"", "a", 1, 1},
	{"", "abc", 3, 3},
	{"a", "a", 0, 0},
	{"a", "b", 1, 1},
	{"a", "A", 1, 1},
	{"ann", "anna", 1, 1},
	{"smith", "schmidt", 4, 4},
	{"kitten", "sitting", 3, 3},
	{"abcdef", "bcdefg", 2, 2},
	{"intention", "execution", 5, 5},
	{"ab", "ba", 2, 1},
	{"smith", "smiht", 2, 1},
	{"abcd", "badc", 3, 2},
	{"abc", "bca", 2, 2},
	// An edit of an exchanged part is not allowed, so that this is not 2.
	{"ca", "abc", 3, 3},
	{"ca", "ac", 2, 1},
	{"ac", "abc", 1, 1},
	{"a cat", "an act", 3, 2},
	{"aab", "aba", 2, 1},
	{"é", "è", 1, 1},
	{"é", "e", 2, 2},
	{"\x00", "", 1, 1},
	{"\xff\x00", "\x00\xff", 2, 1},
}

func TestDistanceValues(t *testing.T) {
	for _, c := range distanceCases {
		for _, p := range [][2]string{{c.a, c.b}, {c.b, c.a}} {
			if got := impl.EditDistance(p[0], p[1]); got != c.edit {
				t.Errorf("EditDistance(%q, %q) = %d, want %d", p[0], p[1], got, c.edit)
			}
			if got := impl.SwapDistance(p[0], p[1]); got != c.swap {
				t.Errorf("SwapDistance(%q, %q) = %d, want %d", p[0], p[1], got, c.swap)
			}
		}
	}
}

func stringsOf(alphabet string, most int) []string {
	var all []string
	everyString(alphabet, most, func(s string) { all = append(all, s) })
	return all
}

// longTexts are texts of all lengths up to MaxEditText. They have few letters,
// and neighbours share parts, so that several scripts have the least cost.
func longTexts() []string {
	var all []string
	state := 1
	for n := range impl.MaxEditText + 1 {
		text := make([]byte, n)
		for i := range text {
			state = (state*1103515245 + 12345) % (1 << 31)
			text[i] = "abc "[state>>16%4]
		}
		all = append(all, string(text))
		if n > 2 {
			all = append(all, string(text[1:n-1])+string(text[:2]))
		}
	}
	return all
}

// longBytes are the texts with some of the bytes changed to others than text.
func longBytes() []string {
	var all []string
	change := strings.NewReplacer("a", "\x00", "b", "\xff", "c", "é")
	for _, s := range longTexts() {
		s = change.Replace(s)
		all = append(all, s[:min(len(s), impl.MaxEditText)])
	}
	return all
}

// prefixDistance is the chapter's definition by the distances of prefixes.
func prefixDistance(a, b string, exchanges bool) int {
	table := map[[2]int]int{}
	for i := range len(a) + 1 {
		for j := range len(b) + 1 {
			least := i + j
			if i > 0 {
				least = min(least, table[[2]int{i - 1, j}]+1)
			}
			if j > 0 {
				least = min(least, table[[2]int{i, j - 1}]+1)
			}
			if i > 0 && j > 0 && a[i-1] == b[j-1] {
				least = min(least, table[[2]int{i - 1, j - 1}])
			}
			if i > 0 && j > 0 && a[i-1] != b[j-1] {
				least = min(least, table[[2]int{i - 1, j - 1}]+1)
			}
			if exchanges && i > 1 && j > 1 && a[i-2] == b[j-1] && a[i-1] == b[j-2] {
				least = min(least, table[[2]int{i - 2, j - 2}]+1)
			}
			table[[2]int{i, j}] = least
		}
	}
	return table[[2]int{len(a), len(b)}]
}

func checkDistances(t *testing.T, a, b string) {
	t.Helper()
	if got, want := impl.EditDistance(a, b), prefixDistance(a, b, false); got != want {
		t.Errorf("EditDistance(%q, %q) = %d, want %d", a, b, got, want)
	}
	if got, want := impl.SwapDistance(a, b), prefixDistance(a, b, true); got != want {
		t.Errorf("SwapDistance(%q, %q) = %d, want %d", a, b, got, want)
	}
}

func TestDistancesOfShortStringsFollowTheDefinition(t *testing.T) {
	for _, l := range [][]string{stringsOf("abc", 4), stringsOf("a\x80\xff", 3), stringsOf("ab", 5)} {
		for _, a := range l {
			for _, b := range l {
				checkDistances(t, a, b)
			}
		}
	}
}

func TestDistancesOfLongStringsFollowTheDefinition(t *testing.T) {
	texts, bytes := longTexts(), longBytes()
	for i, a := range texts {
		for _, j := range []int{i, (i + 1) % len(texts), (i * 7) % len(texts), len(texts) - 1} {
			checkDistances(t, a, texts[j])
			checkDistances(t, bytes[i], bytes[j])
			checkDistances(t, a, bytes[j])
		}
	}
}

// oneEdit reports whether a becomes b by one insertion, deletion or substitution.
func oneEdit(a, b string) bool {
	for i := range len(a) {
		if a[:i]+a[i+1:] == b {
			return true
		}
		if len(a) == len(b) && a[i] != b[i] && a[:i] == b[:i] && a[i+1:] == b[i+1:] {
			return true
		}
	}
	for i := range len(b) {
		if b[:i]+b[i+1:] == a {
			return true
		}
	}
	return false
}

// Between two strings there is a shortest way on which none is longer than both.
func TestEditDistanceIsTheLeastNumberOfEdits(t *testing.T) {
	all := stringsOf("ab", 5)
	for _, a := range all {
		edits := map[string]int{a: 0}
		for queue := []string{a}; len(queue) > 0; queue = queue[1:] {
			for _, next := range all {
				if _, seen := edits[next]; !seen && oneEdit(queue[0], next) {
					edits[next] = edits[queue[0]] + 1
					queue = append(queue, next)
				}
			}
		}
		for _, b := range all {
			if got := impl.EditDistance(a, b); got != edits[b] {
				t.Errorf("EditDistance(%q, %q) = %d, want %d", a, b, got, edits[b])
			}
		}
	}
}

func TestEditDistanceIsAMetric(t *testing.T) {
	short := append(stringsOf("abc", 3), "é", "\x00\xff", "smith", "smyths")
	long := longTexts()[50:]
	for _, l := range [][]string{short, append(long, longBytes()[60:]...)} {
		distance := map[[2]string]int{}
		for _, a := range l {
			for _, b := range l {
				d := impl.EditDistance(a, b)
				if d < 0 || (d == 0) != (a == b) || d != impl.EditDistance(b, a) {
					t.Errorf("%q, %q: %d", a, b, d)
				}
				distance[[2]string{a, b}] = d
			}
		}
		for _, a := range l {
			for _, b := range l {
				direct := distance[[2]string{a, b}]
				for _, c := range l {
					if direct > distance[[2]string{a, c}]+distance[[2]string{c, b}] {
						t.Errorf("%q to %q is shorter by %q", a, b, c)
					}
				}
			}
		}
	}
}

func TestSwapDistanceIsSymmetricAndNoGreater(t *testing.T) {
	for _, l := range [][]string{stringsOf("abc", 4), longTexts()[55:], longBytes()[55:]} {
		for _, a := range l {
			for _, b := range l {
				swap, edit := impl.SwapDistance(a, b), impl.EditDistance(a, b)
				if swap != impl.SwapDistance(b, a) || (swap == 0) != (a == b) || swap > edit || edit > 2*swap {
					t.Errorf("%q, %q: %d, %d", a, b, swap, edit)
				}
			}
		}
	}
}

func TestMaxEditTextValue(t *testing.T) {
	if impl.MaxEditText != 40 {
		t.Error(impl.MaxEditText)
	}
}

func TestStringsOfMaxEditText(t *testing.T) {
	most, other := strings.Repeat("a", 40), strings.Repeat("b", 40)
	alternating, shifted := strings.Repeat("ab", 20), strings.Repeat("ba", 20)
	for _, c := range []struct {
		a, b              string
		edit, swap, score int
		script            string
	}{
		{most, most, 0, 0, 1000, strings.Repeat("=", 40)},
		{most, other, 40, 40, 0, strings.Repeat("~b", 40)},
		{most, "", 40, 40, 0, strings.Repeat("-", 40)},
		{"", most, 40, 40, 0, strings.Repeat("+a", 40)},
		{most, "a", 39, 39, 25, "=" + strings.Repeat("-", 39)},
		{alternating, shifted, 2, 2, 950, "-" + strings.Repeat("=", 39) + "+a"},
	} {
		if got := impl.EditDistance(c.a, c.b); got != c.edit {
			t.Errorf("EditDistance(%q, %q) = %d, want %d", c.a, c.b, got, c.edit)
		}
		if got := impl.SwapDistance(c.a, c.b); got != c.swap {
			t.Errorf("SwapDistance(%q, %q) = %d, want %d", c.a, c.b, got, c.swap)
		}
		if got := impl.EditWithin(c.a, c.b, 40); got != c.edit {
			t.Errorf("EditWithin(%q, %q, 40) = %d, want %d", c.a, c.b, got, c.edit)
		}
		if got := impl.EditScore(c.a, c.b); got != c.score {
			t.Errorf("EditScore(%q, %q) = %d, want %d", c.a, c.b, got, c.score)
		}
		if got := impl.EditScript(c.a, c.b); got != c.script {
			t.Errorf("EditScript(%q, %q) = %q, want %q", c.a, c.b, got, c.script)
		}
	}
}

func checkTooLong(t *testing.T, a, b string) {
	t.Helper()
	if got := impl.EditDistance(a, b); got != -1 {
		t.Errorf("EditDistance(%q, %q) = %d", a, b, got)
	}
	if got := impl.SwapDistance(a, b); got != -1 {
		t.Errorf("SwapDistance(%q, %q) = %d", a, b, got)
	}
	for _, limit := range []int{math.MinInt, -2, -1, 0, 1, 40, 41, math.MaxInt} {
		if got := impl.EditWithin(a, b, limit); got != -1 {
			t.Errorf("EditWithin(%q, %q, %d) = %d", a, b, limit, got)
		}
	}
	if got := impl.EditScore(a, b); got != 0 {
		t.Errorf("EditScore(%q, %q) = %d", a, b, got)
	}
	if got := impl.EditScript(a, b); got != "" {
		t.Errorf("EditScript(%q, %q) = %q", a, b, got)
	}
}

func TestStringsBeyondMaxEditText(t *testing.T) {
	// The last one has 40 characters, but more bytes.
	for _, long := range []string{strings.Repeat("a", 41), strings.Repeat("\xff", 41), strings.Repeat("ab", 5000), strings.Repeat("a", 39) + "é"} {
		for _, other := range []string{"", "a", strings.Repeat("a", 40), long} {
			checkTooLong(t, long, other)
			checkTooLong(t, other, long)
		}
	}
}

func TestEditWithinLimits(t *testing.T) {
	limits := []int{math.MinInt, -2, -1, 0, 1, 2, 3, 4, 40, math.MaxInt}
	everyPair := stringsOf("abc", 3)
	for _, a := range everyPair {
		for _, b := range everyPair {
			d := impl.EditDistance(a, b)
			for _, limit := range limits {
				want := -1
				if limit >= d {
					want = d
				}
				if got := impl.EditWithin(a, b, limit); got != want {
					t.Errorf("EditWithin(%q, %q, %d) = %d, want %d", a, b, limit, got, want)
				}
			}
		}
	}
}

func TestEditWithinValues(t *testing.T) {
	for _, c := range []struct {
		a, b        string
		limit, want int
	}{
		{"ann", "anna", 1, 1},
		{"ann", "anna", 0, -1},
		{"ann", "anna", -1, -1},
		{"ab", "ba", 1, -1},
		{"ab", "ba", 2, 2},
		{"a", "a", 0, 0},
		{"a", "a", -1, -1},
		{"", "", 0, 0},
		{"", "", -1, -1},
		{"", "", math.MinInt, -1},
		{"", "abc", 2, -1},
		{"", "abc", math.MaxInt, 3},
		{"é", "è", 1, 1},
	} {
		if got := impl.EditWithin(c.a, c.b, c.limit); got != c.want {
			t.Errorf("EditWithin(%q, %q, %d) = %d, want %d", c.a, c.b, c.limit, got, c.want)
		}
	}
}

func TestEditScoreValues(t *testing.T) {
	for _, c := range []struct {
		a, b string
		want int
	}{
		{"", "", 1000},
		{"", "a", 0},
		{"a", "b", 0},
		{"anna", "anna", 1000},
		{"anna", "ann", 750},
		{"anna", "aann", 500},
		{"abc", "abd", 666},
		{"abc", "a", 333},
		{"abcdef", "abcdeg", 833},
		{"abcdefg", "abcdefh", 857},
		{"smith", "schmidt", 428},
		{"\xff", "\xff", 1000},
		{"é", "è", 500},
	} {
		for _, p := range [][2]string{{c.a, c.b}, {c.b, c.a}} {
			if got := impl.EditScore(p[0], p[1]); got != c.want {
				t.Errorf("EditScore(%q, %q) = %d, want %d", p[0], p[1], got, c.want)
			}
		}
	}
}

// The score is the greatest integer that, with m, does not exceed 1000*(m-d).
func TestEditScoreIsRoundedDown(t *testing.T) {
	for _, l := range [][]string{stringsOf("abc", 3), longTexts()} {
		for _, a := range l {
			for _, b := range l {
				m, score := max(len(a), len(b)), impl.EditScore(a, b)
				kept := 1000 * (m - impl.EditDistance(a, b))
				if m > 0 && (score*m > kept || (score+1)*m <= kept) {
					t.Errorf("EditScore(%q, %q) = %d", a, b, score)
				}
			}
		}
	}
}

func TestEditScriptValues(t *testing.T) {
	for _, c := range []struct{ a, b, want string }{
		{"", "", ""},
		{"", "ab", "+a+b"},
		{"ab", "", "--"},
		{"a", "a", "="},
		{"a", "b", "~b"},
		{"smith", "smyths", "==~y==+s"},
		{"abc", "b", "-=-"},
		{"b", "abc", "+a=+c"},
		// A replacement comes before a deletion, which comes before an insertion.
		{"ab", "ba", "~b~a"},
		{"ab", "c", "~c-"},
		{"a", "bc", "~b+c"},
		{"abcd", "bcda", "-===+a"},
		{"aba", "bab", "-==+b"},
		{"aa", "a", "=-"},
		{"a", "aa", "=+a"},
		{"ba", "a", "-="},
		{"a", "ba", "+b="},
		{"=~-+", "+-~=", "~+~-~~~="},
		{" ", "~", "~~"},
	} {
		if got := impl.EditScript(c.a, c.b); got != c.want {
			t.Errorf("EditScript(%q, %q) = %q, want %q", c.a, c.b, got, c.want)
		}
	}
}

// scriptCost counts the operations of cost 1 of a script.
func scriptCost(script string) int {
	cost := 0
	for i := 0; i < len(script); i++ {
		if script[i] != '=' {
			cost++
		}
		if script[i] == '~' || script[i] == '+' {
			i++
		}
	}
	return cost
}

func TestEditScriptTransformsAtTheLeastCost(t *testing.T) {
	for _, l := range [][]string{stringsOf("abc", 4), stringsOf("=~-+", 3), longTexts()} {
		for _, a := range l {
			for _, b := range l {
				script := impl.EditScript(a, b)
				if got, ok := impl.ApplyScript(a, script); got != b || !ok {
					t.Errorf("ApplyScript(%q, %q) = %q, %v, want %q", a, script, got, ok, b)
				}
				if got, want := scriptCost(script), impl.EditDistance(a, b); got != want {
					t.Errorf("EditScript(%q, %q) = %q costs %d, want %d", a, b, script, got, want)
				}
			}
		}
	}
}

// firstScript chooses by the chapter's rule with the distances of the
// remaining parts.
func firstScript(a, b string) string {
	type step struct {
		name             string
		cost, used, made int
	}
	var steps []step
	if a != "" && b != "" && a[0] == b[0] {
		steps = append(steps, step{"=", 0, 1, 1})
	}
	if a != "" && b != "" {
		steps = append(steps, step{"~" + b[:1], 1, 1, 1})
	}
	if a != "" {
		steps = append(steps, step{"-", 1, 1, 0})
	}
	if b != "" {
		steps = append(steps, step{"+" + b[:1], 1, 0, 1})
	}
	for _, s := range steps {
		restA, restB := a[s.used:], b[s.made:]
		if s.cost+prefixDistance(restA, restB, false) == prefixDistance(a, b, false) {
			return s.name + firstScript(restA, restB)
		}
	}
	return ""
}

func TestEditScriptChoosesTheFirstOperation(t *testing.T) {
	for _, l := range [][]string{stringsOf("abc", 3), stringsOf("ab", 4)} {
		for _, a := range l {
			for _, b := range l {
				if got, want := impl.EditScript(a, b), firstScript(a, b); got != want {
					t.Errorf("EditScript(%q, %q) = %q, want %q", a, b, got, want)
				}
			}
		}
	}
	texts := longTexts()[30:46]
	for i, a := range texts {
		b := texts[(i+3)%len(texts)]
		if got, want := impl.EditScript(a, b), firstScript(a, b); got != want {
			t.Errorf("EditScript(%q, %q) = %q, want %q", a, b, got, want)
		}
	}
}

func TestEditScriptOfStringsThatAreNotText(t *testing.T) {
	all := everyByte()
	for i := range len(all) {
		s := "a" + all[i:i+1]
		wantTo, wantFrom := "", ""
		if impl.IsText(s) {
			wantTo, wantFrom = "=+"+all[i:i+1], "=-"
		}
		if got := impl.EditScript("a", s); got != wantTo {
			t.Errorf("EditScript(%q, %q) = %q, want %q", "a", s, got, wantTo)
		}
		if got := impl.EditScript(s, "a"); got != wantFrom {
			t.Errorf("EditScript(%q, %q) = %q, want %q", s, "a", got, wantFrom)
		}
	}
	for _, s := range []string{"é", "\n", "\x7f", "\x00", "\xff"} {
		for _, other := range []string{"", "a", s} {
			for _, p := range [][2]string{{s, other}, {other, s}} {
				if got := impl.EditScript(p[0], p[1]); got != "" {
					t.Errorf("EditScript(%q, %q) = %q", p[0], p[1], got)
				}
			}
		}
	}
}

func checkApplied(t *testing.T, a, script, want string, wantOK bool) {
	t.Helper()
	if got, ok := impl.ApplyScript(a, script); got != want || ok != wantOK {
		t.Errorf("ApplyScript(%q, %q) = %q, %v, want %q, %v", a, script, got, ok, want, wantOK)
	}
}

func TestApplyScriptValues(t *testing.T) {
	for _, c := range []struct{ a, script, want string }{
		{"", "", ""},
		{"smith", "==~y==+s", "smyths"},
		{"smith", "=====", "smith"},
		{"smith", "-----", ""},
		{"smith", "~a~b~c~d~e", "abcde"},
		{"", "+a+b", "ab"},
		{"a", "+b=+c", "bac"},
		// No script of EditScript, but its operations.
		{"a", "-+a", "a"},
		{"a", "~a", "a"},
		// Bytes that are also operations.
		{"=~-+", "====", "=~-+"},
		{"", "+=+~+-++", "=~-+"},
		{"abcd", "~=~~~-~+", "=~-+"},
		// ApplyScript asks for no text, and for no length.
		{"\x00é\xff", "=-=+\x00~\xfe", "\x00\xa9\x00\xfe"},
		{"", "+\xc3+\xa9", "é"},
		{strings.Repeat("a", 1000), strings.Repeat("=~b", 500), strings.Repeat("ab", 500)},
		{"", strings.Repeat("+a", 1000), strings.Repeat("a", 1000)},
	} {
		checkApplied(t, c.a, c.script, c.want, true)
	}
}

func TestApplyScriptRefuses(t *testing.T) {
	for _, c := range []struct{ a, script string }{
		// Another operation.
		{"smith", "?===="},
		{"smith", "=====?"},
		{"smith", "==== ="},
		{"", "a"},
		{"", "\x00"},
		{"", "\xff"},
		{"a", "=\n"},
		{"", "é"},
		// The end in the middle of an operation.
		{"", "+"},
		{"smith", "=====+"},
		{"smith", "====~"},
		{"a", "~"},
		{"", "++++a"},
		{"", "+a+"},
		// More bytes than there are.
		{"", "="},
		{"", "-"},
		{"", "~a"},
		{"", "~"},
		{"smith", "======"},
		{"smith", "=====-"},
		{"smith", "=====~a"},
		{"a", "=+b="},
		// Fewer bytes than there are.
		{"a", ""},
		{"smith", "=="},
		{"smith", "====+a"},
		{"smith", "---~a"},
		{"é", "="},
	} {
		checkApplied(t, c.a, c.script, "", false)
	}
}

func TestApplyScriptOfEveryByte(t *testing.T) {
	all := everyByte()
	for i := range len(all) {
		c := all[i : i+1]
		checkApplied(t, "a", "~"+c, c, true)
		checkApplied(t, "", "+"+c, c, true)
		// There is nothing left to use, and nothing after an operation that needs a byte.
		checkApplied(t, "", c, "", false)
		checkApplied(t, "a", "="+c, "", false)
		if !strings.Contains("=~-+", c) {
			checkApplied(t, "a", c+"=", "", false)
			checkApplied(t, "", "+a"+c+"+b", "", false)
		}
	}
}

// partsOf splits a script into its operations.
func partsOf(script string) ([]string, bool) {
	operation := regexp.MustCompile("(?s)^(=|-|~.|[+].)")
	var parts []string
	for script != "" {
		found := operation.FindString(script)
		if found == "" {
			return nil, false
		}
		parts = append(parts, found)
		script = script[len(found):]
	}
	return parts, true
}

func applyParts(a string, parts []string) (string, bool) {
	out, used := "", 0
	for _, p := range parts {
		if p[0] != '+' {
			used++
		}
		if used > len(a) {
			return "", false
		}
		if p == "=" {
			out += a[used-1 : used]
		}
		out += p[1:]
	}
	if used < len(a) {
		return "", false
	}
	return out, true
}

func TestApplyScriptOfEveryShortScript(t *testing.T) {
	accepted := 0
	for _, a := range []string{"", "p", "pq", "-+="} {
		everyString("=~-+x", 5, func(script string) {
			parts, ok := partsOf(script)
			want := ""
			if ok {
				want, ok = applyParts(a, parts)
			}
			if ok {
				accepted++
			}
			checkApplied(t, a, script, want, ok)
		})
	}
	if accepted < 100 {
		t.Error(accepted)
	}
}

func TestLongTextsHaveAllLengths(t *testing.T) {
	texts := longTexts()
	for n := range impl.MaxEditText + 1 {
		if !slices.ContainsFunc(texts, func(s string) bool { return len(s) == n && impl.IsText(s) }) {
			t.Error(n)
		}
	}
	if slices.ContainsFunc(longBytes(), func(s string) bool { return len(s) > impl.MaxEditText }) {
		t.Error("longBytes")
	}
}
