package tests

import (
	"math"
	"regexp"
	"slices"
	"strconv"
	"strings"
	"testing"

	"loop.example/g01923/impl"
)

// someBiases are valid ones, with each number of digits.
var someBiases = []int{0, 1, 2, 7, 9, 10, 99, 100, 333, 500, 501, 600, 999, 1000}

var (
	weightsOutOfRange = []int{math.MinInt, math.MinInt + 1, -1000, -9, -2, -1, 10, 11, 99, 1000, 1 << 32, math.MaxInt - 1, math.MaxInt}
	biasesOutOfRange  = []int{math.MinInt, math.MinInt + 1, -1000, -2, -1, 1001, 1002, 9999, 1 << 32, math.MaxInt - 1, math.MaxInt}
)

func scoringOf(bias int, weights ...int) impl.Scoring {
	return impl.Scoring{Weights: weights, Bias: bias}
}

// oneWeight returns a scoring whose other weights are 0.
func oneWeight(bias, feature, weight int) impl.Scoring {
	return scoringOf(bias, vectorWith(feature, weight)...)
}

// someWeights are valid ones, with each digit at each place.
func someWeights() [][]int {
	lists := [][]int{{2, 0, 0, 0, 0, 1}, {1, 2, 3, 4, 5, 6}, {9, 8, 7, 6, 5, 4}, {0, 1, 0, 9, 0, 1}, {5, 0, 0, 2, 2, 0}, {0, 0, 0, 0, 1, 1}}
	for weight := 1; weight <= 9; weight++ {
		lists = append(lists, slices.Repeat([]int{weight}, impl.FeatureCount))
		for feature := range impl.FeatureCount {
			lists = append(lists, vectorWith(feature, weight))
		}
	}
	return lists
}

func validScorings() []impl.Scoring {
	var scorings []impl.Scoring
	for _, weights := range someWeights() {
		for _, bias := range someBiases {
			scorings = append(scorings, scoringOf(bias, weights...))
		}
	}
	return scorings
}

// overflowingWeights are lists of six weights, most of whose sums leave the range of
// an int. What remains of them is 0, positive or negative.
func overflowingWeights() [][]int {
	half := 1 << 62
	return [][]int{
		{math.MaxInt, math.MaxInt, 3, 0, 0, 0}, {math.MaxInt, math.MaxInt, 2, 0, 0, 0}, {math.MaxInt, 1, 0, 0, 0, 0},
		{math.MinInt, math.MinInt, 0, 0, 0, 0}, {math.MinInt, math.MinInt, 5, 0, 0, 0}, {math.MinInt, -1, 0, 0, 0, 0},
		{half, half, half, half, 0, 0}, {half, half, half, half, 1, 0}, {0, 9, half, half, half, half}, {half, half, 0, 0, 0, 0},
		{math.MaxInt, math.MinInt, 2, 0, 0, 0}, {math.MaxInt, math.MinInt, 1, 0, 0, 0}, {9, 9, 9, 9, 9, math.MaxInt},
		slices.Repeat([]int{math.MaxInt}, 6), slices.Repeat([]int{math.MinInt}, 6), {math.MaxInt, -math.MaxInt, 1, 0, 0, 0},
	}
}

// badScorings are not valid, for different reasons.
func badScorings() []impl.Scoring {
	bad := []impl.Scoring{{}, {Bias: 500}, {Weights: []int{}}, {Weights: make([]int, 0, 6), Bias: 1}, {Weights: []int{9}[:0]}}
	for _, n := range []int{1, 2, 3, 4, 5, 7, 8, 12, 18, 1000, 100000} {
		for _, weight := range []int{0, 1, 9} {
			bad = append(bad, scoringOf(500, slices.Repeat([]int{weight}, n)...))
		}
	}
	bad = append(bad, scoringOf(0, 1, 0, 0, 0, 0), scoringOf(0, 1, 0, 0, 0, 0, 0, 0), scoringOf(0, 0, 0, 0, 0, 0, 0, 1))
	for _, bias := range slices.Concat(someBiases, biasesOutOfRange) {
		bad = append(bad, scoringOf(bias, make([]int, 6)...))
	}
	for _, weights := range someWeights() {
		for _, bias := range biasesOutOfRange {
			bad = append(bad, scoringOf(bias, weights...))
		}
	}
	for feature := range impl.FeatureCount {
		for _, weight := range weightsOutOfRange {
			for _, other := range []int{0, 1, 9} {
				weights := slices.Repeat([]int{other}, impl.FeatureCount)
				weights[feature] = weight
				bad = append(bad, scoringOf(500, weights...), scoringOf(0, weights...))
			}
		}
	}
	for _, weights := range overflowingWeights() {
		bad = append(bad, scoringOf(0, weights...), scoringOf(1000, weights...))
	}
	return bad
}

// beginningOfScoring is for messages, which are not to hold lists of any length.
func beginningOfScoring(s impl.Scoring) impl.Scoring {
	return scoringOf(s.Bias, beginning(s.Weights)...)
}

func beginningOfText(s string) string {
	return s[:min(len(s), 100)]
}

func areEqualScorings(a, b impl.Scoring) bool {
	return a.Bias == b.Bias && slices.Equal(a.Weights, b.Weights)
}

// scoreInSteps is for valid scorings and feature vectors.
func scoreInSteps(s impl.Scoring, f []int) int {
	var scores []int
	for feature, weight := range s.Weights {
		scores = append(scores, slices.Repeat([]int{f[feature]}, weight)...)
	}
	sum := 0
	for _, score := range scores {
		sum += score
	}
	return sum / len(scores)
}

// A weighing tells what became of the difference of score and bias.
type weighing struct {
	holds, equal, kept bool
}

// checkDecision checks the promise for valid rules and scorings and a feature vector.
func checkDecision(t *testing.T, r impl.RuleSet, s impl.Scoring, f []int) weighing {
	t.Helper()
	got, difference, holds := impl.PairWeight(r, s, f), scoreInSteps(s, f)-s.Bias, firstInSteps(r, f) >= 0
	if impl.RulesHold(r, f) != holds {
		t.Errorf("RulesHold(%v, %v) = %v", r, f, !holds)
	}
	if score := impl.PairScore(s, f); score != difference+s.Bias {
		t.Errorf("PairScore(%v, %v) = %d, want %d", s, f, score, difference+s.Bias)
	}
	if (got > 0) != holds || (got < 0) == holds {
		t.Errorf("PairWeight(%v, %v, %v) = %d, but the rules hold: %v", r, s, f, got, holds)
	}
	kept := holds && difference > 0 || !holds && difference < 0
	want := difference
	switch {
	case !kept && holds:
		want = 1
	case !kept:
		want = -1
	}
	if got != want {
		t.Errorf("PairWeight(%v, %v, %v) = %d, want %d", r, s, f, got, want)
	}
	return weighing{holds, difference == 0, kept}
}

// scoringsFor returns scorings that weigh one of the features most.
func scoringsFor(features ...int) []impl.Scoring {
	var scorings []impl.Scoring
	for _, feature := range features {
		for _, bias := range []int{0, 1, 250, 499, 500, 501, 1000} {
			weights := slices.Repeat([]int{1}, impl.FeatureCount)
			weights[feature] = 9
			scorings = append(scorings, oneWeight(bias, feature, 3), scoringOf(bias, weights...))
		}
	}
	return scorings
}

// The promise, over the thresholds and the numbers beside them.
func TestSignOfWeightIsTheDecision(t *testing.T) {
	counts := map[weighing]int{}
	for _, features := range [][]int{{0, 5}, {2, 3}} {
		scorings := append(scoringsFor(features...), scoringOf(600, 2, 0, 0, 0, 0, 1), scoringOf(300, 0, 0, 1, 4, 0, 0))
		setsOf(rulesOver(features[0], features[1], 1, 500), 2, func(r impl.RuleSet) {
			for i, f := range vectorsBeside(r) {
				for j := i % 3; j < len(scorings); j += 3 {
					counts[checkDecision(t, r, scorings[j], f)]++
				}
			}
		})
	}
	for _, holds := range []bool{true, false} {
		for _, w := range []weighing{{holds, true, false}, {holds, false, true}, {holds, false, false}} {
			if counts[w] < 1000 {
				t.Errorf("%d cases of %+v", counts[w], w)
			}
		}
	}
}

// The promise, for rules of any features and of one to three rules.
func TestSignOfWeightForManyRules(t *testing.T) {
	scorings := validScorings()
	sets := validRuleSets()
	for i := 0; i < len(sets); i += 5 {
		for j, f := range vectorsBeside(sets[i]) {
			checkDecision(t, sets[i], scorings[(7*i+3*j)%len(scorings)], f)
		}
	}
}

// The promise, for every valid scoring and other vectors than those of the grid.
func TestSignOfWeightForManyScorings(t *testing.T) {
	rules := []impl.RuleSet{
		rulesOf(ruleOf(atLeast(0, 800))), rulesOf(ruleOf(below(0, 800))), rulesOf(ruleOf(atLeast(0, 1)), ruleOf(below(5, 1000))),
		rulesOf(ruleOf(atLeast(1, 500), below(3, 500)), ruleOf(atLeast(2, 10), atLeast(4, 100))),
	}
	vectors := someVectors()
	for i, s := range validScorings() {
		for j := i % 7; j < len(vectors); j += 7 {
			checkDecision(t, rules[(i+j)%len(rules)], s, vectors[j])
		}
	}
}

func checkWeight(t *testing.T, r impl.RuleSet, s impl.Scoring, f []int, want int) {
	t.Helper()
	if got := impl.PairWeight(r, s, f); got != want {
		t.Errorf("PairWeight(%v, %v, %v) = %d, want %d", beginningOfRules(r), beginningOfScoring(s), beginning(f), got, want)
	}
}

// checkWeights checks the weight for rules that hold and for rules that do not, all
// of which test one feature. It need not be one that the scoring weighs.
func checkWeights(t *testing.T, s impl.Scoring, f []int, other, wantHolding, wantNot int) {
	t.Helper()
	for _, threshold := range []int{1, f[other], f[other] + 1, 1000} {
		yes, no := ruleOf(atLeast(other, threshold)), ruleOf(below(other, threshold))
		if f[other] < threshold {
			yes, no = no, yes
		}
		if 1 <= threshold && threshold <= 1000 {
			checkWeight(t, rulesOf(yes), s, f, wantHolding)
			checkWeight(t, rulesOf(no), s, f, wantNot)
			checkWeight(t, rulesOf(no, no, yes), s, f, wantHolding)
		}
	}
}

// The edge case: a score that equals the bias, and the scores beside it.
func TestScoreThatEqualsTheBias(t *testing.T) {
	for bias := range 1001 {
		feature, other := bias%6, (bias+1+bias/6%5)%6
		s := oneWeight(bias, feature, 1+bias%9)
		at := func(difference int) []int { return vectorWith(feature, bias+difference, other, (bias*7)%1001) }
		checkWeights(t, s, at(0), other, 1, -1)
		for difference := 1; difference <= 3; difference++ {
			if bias+difference <= 1000 {
				checkWeights(t, s, at(difference), other, difference, -1)
			}
			if bias-difference >= 0 {
				checkWeights(t, s, at(-difference), other, 1, -difference)
			}
		}
		if bias > 0 {
			// The rules ask for the bias itself.
			checkWeight(t, rulesOf(ruleOf(atLeast(feature, bias))), s, at(0), 1)
			checkWeight(t, rulesOf(ruleOf(below(feature, bias))), s, at(0), -1)
			checkWeight(t, rulesOf(ruleOf(atLeast(feature, bias))), s, at(-1), -1)
			checkWeight(t, rulesOf(ruleOf(below(feature, bias))), s, at(-1), 1)
		}
	}
}

// A score that equals the bias after it is rounded down.
func TestRoundedScoreThatEqualsTheBias(t *testing.T) {
	for _, c := range []struct {
		f                    []int
		bias, holds, notHeld int
	}{
		// 833.3, whatever the feature is that only the rules ask for.
		{[]int{1000, 0, 0, 0, 0, 500}, 832, 1, -1}, {[]int{1000, 0, 0, 0, 0, 500}, 833, 1, -1}, {[]int{1000, 0, 0, 0, 0, 500}, 834, 1, -1},
		{[]int{1000, 900, 900, 77, 900, 500}, 831, 2, -1}, {[]int{1000, 900, 900, 77, 900, 500}, 835, 1, -2},
		// 666.6
		{[]int{1000, 0, 0, 1000, 0, 0}, 664, 2, -1}, {[]int{1000, 0, 0, 1000, 0, 0}, 666, 1, -1},
		{[]int{1000, 0, 0, 1000, 0, 0}, 667, 1, -1}, {[]int{1000, 0, 0, 1000, 0, 0}, 668, 1, -2},
		// 0.6 and 999.6
		{[]int{1, 0, 0, 0, 0, 0}, 0, 1, -1}, {[]int{1, 0, 0, 0, 0, 0}, 1, 1, -1}, {[]int{1, 0, 0, 0, 0, 0}, 2, 1, -2},
		{[]int{1000, 0, 0, 0, 0, 999}, 999, 1, -1}, {[]int{1000, 0, 0, 0, 0, 999}, 1000, 1, -1}, {[]int{1000, 0, 0, 0, 0, 999}, 997, 2, -1},
	} {
		checkWeights(t, scoringOf(c.bias, 2, 0, 0, 0, 0, 1), c.f, 3, c.holds, c.notHeld)
		checkWeights(t, scoringOf(c.bias, 4, 0, 0, 0, 0, 2), c.f, 3, c.holds, c.notHeld)
	}
}

// The least and the greatest bias with the least and the greatest score.
func TestWeightAtTheLimits(t *testing.T) {
	least, greatest := vectorWith(), slices.Repeat([]int{1000}, 6)
	for _, weights := range someWeights() {
		for other := range impl.FeatureCount {
			checkWeights(t, scoringOf(0, weights...), least, other, 1, -1)
			checkWeights(t, scoringOf(0, weights...), greatest, other, 1000, -1)
			checkWeights(t, scoringOf(1000, weights...), least, other, 1, -1000)
			checkWeights(t, scoringOf(1000, weights...), greatest, other, 1, -1)
			checkWeights(t, scoringOf(1, weights...), least, other, 1, -1)
			checkWeights(t, scoringOf(1, weights...), greatest, other, 999, -1)
			checkWeights(t, scoringOf(999, weights...), least, other, 1, -999)
			checkWeights(t, scoringOf(999, weights...), greatest, other, 1, -1)
		}
	}
}

func TestPairWeightValues(t *testing.T) {
	name, both := rulesOf(ruleOf(atLeast(0, 800))), rulesOf(ruleOf(atLeast(0, 800), atLeast(5, 400)), ruleOf(atLeast(2, 900)))
	s := scoringOf(600, 2, 0, 0, 0, 0, 1)
	for _, c := range []struct {
		r    impl.RuleSet
		f    []int
		want int
	}{
		{name, []int{900, 0, 0, 0, 0, 300}, 100},
		{name, []int{800, 0, 0, 0, 0, 0}, 1},
		{name, []int{700, 0, 0, 0, 0, 1000}, -1},
		{name, []int{0, 0, 0, 0, 0, 0}, -600},
		{name, []int{1000, 1000, 1000, 1000, 1000, 1000}, 400},
		{name, []int{799, 0, 0, 0, 0, 0}, -68},
		{name, []int{800, 0, 0, 0, 0, 202}, 1},
		{name, []int{800, 0, 0, 0, 0, 203}, 1},
		{name, []int{800, 0, 0, 0, 0, 206}, 2},
		{name, []int{799, 0, 0, 0, 0, 202}, -1},
		{name, []int{799, 0, 0, 0, 0, 199}, -1},
		{name, []int{799, 0, 0, 0, 0, 196}, -2},
		{both, []int{800, 0, 0, 0, 0, 400}, 66},
		{both, []int{800, 0, 0, 0, 0, 399}, -1},
		{both, []int{800, 0, 899, 0, 0, 0}, -67},
		{both, []int{0, 0, 900, 0, 0, 0}, 1},
		{both, []int{0, 1000, 1000, 1000, 1000, 1000}, 1},
		{both, []int{1000, 0, 0, 1000, 0, 0}, -1},
	} {
		checkWeight(t, c.r, s, c.f, c.want)
		checkDecision(t, c.r, s, c.f)
	}
}

func TestPairWeightOfRulesThatAreNotValid(t *testing.T) {
	for _, r := range badRuleSets() {
		for _, s := range []impl.Scoring{scoringOf(0, 1, 1, 1, 1, 1, 1), scoringOf(600, 2, 0, 0, 0, 0, 1), scoringOf(1000, 9, 9, 9, 9, 9, 9), {}} {
			for _, f := range [][]int{vectorWith(), slices.Repeat([]int{1000}, 6), slices.Repeat([]int{500}, 6), vectorWith(0, 1), nil} {
				checkWeight(t, r, s, f, 0)
			}
		}
	}
}

func TestPairWeightOfScoringsThatAreNotValid(t *testing.T) {
	always, never := rulesOf(ruleOf(atLeast(0, 1)), ruleOf(below(0, 1))), rulesOf(ruleOf(atLeast(0, 1)), ruleOf(atLeast(5, 1)))
	for _, s := range badScorings() {
		for _, f := range [][]int{vectorWith(), slices.Repeat([]int{1000}, 6), slices.Repeat([]int{500}, 6), {0, 1, 22, 333, 444, 1000}, nil, {1}} {
			checkWeight(t, always, s, f, 0)
			checkWeight(t, never, s, f, 0)
			checkWeight(t, impl.RuleSet{}, s, f, 0)
		}
	}
}

func TestPairWeightOfListsThatAreNoVectors(t *testing.T) {
	rules := []impl.RuleSet{
		rulesOf(ruleOf(atLeast(0, 1)), ruleOf(below(0, 1))), rulesOf(ruleOf(atLeast(0, 1000))), rulesOf(ruleOf(below(5, 1))), {},
	}
	for _, f := range badVectors() {
		for _, r := range rules {
			for _, s := range []impl.Scoring{scoringOf(0, 0, 0, 1, 0, 0, 0), scoringOf(600, 2, 0, 0, 0, 0, 1), scoringOf(1000, 9, 9, 9, 9, 9, 9), {}} {
				checkWeight(t, r, s, f, 0)
			}
		}
	}
}

func checkPairScore(t *testing.T, s impl.Scoring, f []int, want int) {
	t.Helper()
	if got := impl.PairScore(s, f); got != want {
		t.Errorf("PairScore(%v, %v) = %d, want %d", beginningOfScoring(s), beginning(f), got, want)
	}
}

func TestPairScoreValues(t *testing.T) {
	f := []int{0, 1, 22, 333, 444, 1000}
	for _, bias := range someBiases {
		for feature, score := range f {
			for weight := 1; weight <= 9; weight++ {
				checkPairScore(t, oneWeight(bias, feature, weight), f, score)
			}
		}
		checkPairScore(t, scoringOf(bias, 2, 0, 0, 0, 0, 1), []int{900, 0, 0, 0, 0, 300}, 700)
		checkPairScore(t, scoringOf(bias, 2, 0, 0, 0, 0, 1), []int{1000, 7, 7, 7, 7, 500}, 833)
		checkPairScore(t, scoringOf(bias, 1, 1, 1, 1, 1, 1), f, 300)
		checkPairScore(t, scoringOf(bias, 9, 9, 9, 9, 9, 9), f, 300)
		checkPairScore(t, scoringOf(bias, 1, 2, 3, 4, 5, 6), f, 458)
		checkPairScore(t, scoringOf(bias, 9, 0, 0, 0, 0, 1), []int{0, 0, 0, 0, 0, 9}, 0)
	}
}

func TestPairScoreIsCombineScores(t *testing.T) {
	vectors := someVectors()
	for i, s := range validScorings() {
		for j := i % 3; j < len(vectors); j += 3 {
			f := vectors[j]
			want := impl.CombineScores(f, s.Weights)
			if want != scoreInSteps(s, f) {
				t.Errorf("CombineScores(%v, %v) = %d, want %d", f, s.Weights, want, scoreInSteps(s, f))
			}
			checkPairScore(t, s, f, want)
		}
	}
}

func TestPairScoreOfScoringsThatAreNotValid(t *testing.T) {
	for _, s := range badScorings() {
		for _, f := range [][]int{vectorWith(), slices.Repeat([]int{1000}, 6), slices.Repeat([]int{500}, 6), nil, slices.Repeat([]int{1000}, min(len(s.Weights), 10))} {
			checkPairScore(t, s, f, 0)
		}
	}
}

func TestPairScoreOfListsThatAreNoVectors(t *testing.T) {
	for i, f := range badVectors() {
		for _, s := range []impl.Scoring{scoringOf(0, 0, 0, 0, 0, 0, 1), scoringOf(600, 2, 0, 0, 0, 0, 1), scoringOf(1000, 9, 9, 9, 9, 9, 9), oneWeight(500, i%6, 1), {}, scoringOf(0, f...)} {
			checkPairScore(t, s, f, 0)
		}
	}
}

func checkValidScoring(t *testing.T, s impl.Scoring, want bool) {
	t.Helper()
	if got := impl.IsValidScoring(s); got != want {
		t.Errorf("IsValidScoring of %d weights, %v, = %v", len(s.Weights), beginningOfScoring(s), got)
	}
}

func TestIsValidScoring(t *testing.T) {
	for _, s := range validScorings() {
		checkValidScoring(t, s, true)
	}
	for _, s := range badScorings() {
		checkValidScoring(t, s, false)
	}
}

func TestIsValidScoringOfEachNumberOfWeights(t *testing.T) {
	for n := range 30 {
		for _, weight := range []int{1, 9} {
			checkValidScoring(t, scoringOf(500, slices.Repeat([]int{weight}, n)...), n == 6)
		}
		weights := make([]int, n)
		checkValidScoring(t, scoringOf(500, weights...), false)
		for i := range weights {
			weights[i] = 1
			checkValidScoring(t, scoringOf(500, weights...), n == 6)
			weights[i] = 0
		}
	}
}

func TestIsValidScoringOfEachWeight(t *testing.T) {
	for feature := range impl.FeatureCount {
		for weight := -1100; weight <= 1100; weight++ {
			weights := []int{3, 0, 9, 1, 0, 2}
			weights[feature] = weight
			checkValidScoring(t, scoringOf(500, weights...), 0 <= weight && weight <= 9)
			checkValidScoring(t, oneWeight(500, feature, weight), 1 <= weight && weight <= 9)
		}
	}
	for i := range 5 * 5 * 5 * 5 * 5 * 5 {
		var weights []int
		for rest := i; len(weights) < 6; rest /= 5 {
			weights = append(weights, []int{0, 1, 9, -1, 10}[rest%5])
		}
		want := slices.Min(weights) >= 0 && slices.Max(weights) <= 9 && slices.Max(weights) >= 1
		checkValidScoring(t, scoringOf(someBiases[i%len(someBiases)], weights...), want)
	}
}

func TestIsValidScoringOfEachBias(t *testing.T) {
	for _, weights := range [][]int{{1, 0, 0, 0, 0, 0}, {9, 9, 9, 9, 9, 9}, {2, 0, 0, 0, 0, 1}} {
		for bias := -1500; bias <= 2500; bias++ {
			checkValidScoring(t, scoringOf(bias, weights...), 0 <= bias && bias <= 1000)
		}
		for _, bias := range biasesOutOfRange {
			checkValidScoring(t, scoringOf(bias, weights...), false)
		}
	}
}

// scoringText is for any weights and bias.
func scoringText(s impl.Scoring) string {
	var digits strings.Builder
	for _, weight := range s.Weights {
		digits.WriteString(strconv.Itoa(weight))
	}
	return digits.String() + "-" + strconv.Itoa(s.Bias)
}

// checkScoringText checks that the scoring and the text are each other's format.
func checkScoringText(t *testing.T, s impl.Scoring, text string) {
	t.Helper()
	if got := impl.FormatScoring(s); got != text {
		t.Errorf("FormatScoring(%v) = %q, want %q", s, got, text)
	}
	if got, ok := impl.ParseScoring(text); !ok || !areEqualScorings(got, s) {
		t.Errorf("ParseScoring(%q) = %v, %v", text, got, ok)
	}
}

func TestFormatScoringValues(t *testing.T) {
	for text, s := range map[string]impl.Scoring{
		"200001-600":  scoringOf(600, 2, 0, 0, 0, 0, 1),
		"200001-0":    scoringOf(0, 2, 0, 0, 0, 0, 1),
		"200001-7":    scoringOf(7, 2, 0, 0, 0, 0, 1),
		"200001-10":   scoringOf(10, 2, 0, 0, 0, 0, 1),
		"200001-1000": scoringOf(1000, 2, 0, 0, 0, 0, 1),
		"123456-789":  scoringOf(789, 1, 2, 3, 4, 5, 6),
		"987650-99":   scoringOf(99, 9, 8, 7, 6, 5, 0),
		"000001-100":  scoringOf(100, 0, 0, 0, 0, 0, 1),
		"100000-1":    scoringOf(1, 1, 0, 0, 0, 0, 0),
		"999999-999":  scoringOf(999, 9, 9, 9, 9, 9, 9),
		"000900-500":  scoringOf(500, 0, 0, 0, 9, 0, 0),
	} {
		checkScoringText(t, s, text)
	}
}

// The promise: scorings can be parsed from their string format.
func TestParseScoringReadsEveryFormat(t *testing.T) {
	for _, s := range validScorings() {
		checkScoringText(t, s, scoringText(s))
	}
	for bias := range 1001 {
		for _, weights := range [][]int{{2, 0, 0, 0, 0, 1}, {0, 0, 0, 0, 0, 1}, {9, 9, 9, 9, 9, 9}} {
			s := scoringOf(bias, weights...)
			checkScoringText(t, s, scoringText(s))
		}
	}
	for number := 1; number < 1000000; number += 7 {
		var weights []int
		for divisor := 100000; divisor > 0; divisor /= 10 {
			weights = append(weights, number/divisor%10)
		}
		s := scoringOf(number%1001, weights...)
		checkScoringText(t, s, scoringText(s))
	}
}

func TestFormatScoringOfScoringsThatAreNotValid(t *testing.T) {
	for _, s := range badScorings() {
		if got := impl.FormatScoring(s); got != "" {
			t.Errorf("FormatScoring(%v) = %q", beginningOfScoring(s), beginningOfText(got))
		}
	}
}

func checkNoScoring(t *testing.T, s string) {
	t.Helper()
	if got, ok := impl.ParseScoring(s); ok || len(got.Weights) != 0 || got.Bias != 0 {
		t.Errorf("ParseScoring(%q) = %v, %v", beginningOfText(s), beginningOfScoring(got), ok)
	}
}

// What a scoring that is not valid would be as a text is no format.
func TestParseScoringRefusesWhatIsNotValid(t *testing.T) {
	for _, s := range badScorings() {
		checkNoScoring(t, scoringText(s))
	}
}

func TestParseScoringRefuses(t *testing.T) {
	for _, s := range []string{
		"", " ", "-", "--", "0", "-0", "-600", "600", "none", "scoring", "0-0", "-1-1",
		// No - or another number of digits ahead of it.
		"200001", "200001600", "2000010", "200001 600", "200001_600", "200001+600", "200001/600", "200001–600", "200001−600", "200001\xad600",
		"20001-600", "2001-600", "2-600", "-600", "2000001-600", "20000010-600", "200001200001-600", "0200001-600", "2000010-600",
		// No digits ahead of it.
		"20000x-600", "x00001-600", "20a001-600", "200 01-600", " 00001-600", "20000 -600", "20/001-600", "20:001-600", "2.0001-600",
		"+00001-600", "200+01-600", "20000\x00-600", "\x0000001-600", "20\xff001-600", "20\x80001-600", "２00001-600", "2٠001-600", "２0００-600",
		"ABCDEF-600", "abcdef-600", "\x02\x00\x00\x00\x00\x01-600", "2,0,0,0,0,1-600", "2 0 0 0 0 1-600", "[200001]-600", "2e0001-600", "0x0001-600",
		// Weights that are all 0.
		"000000-600", "000000-0", "000000-1000", "000000-5", "000000-",
		// More than one -.
		"200001--600", "200001-600-", "-200001-600", "200001-6-00", "20-0001-600", "200001-600-1", "2-0-0-0-0-1-600", "20001--600", "200001--0", "200001--",
		"200-01-600", "-00001-600", "20000--600", "200001--1", "200001-0-0",
		// A bias with a leading 0, with a sign or without a digit.
		"200001-00", "200001-07", "200001-060", "200001-0600", "200001-01000", "200001-000", "200001-+600", "200001-+0", "200001-", "200001- ", "200001-x",
		"200001--7", "200001-6x0", "200001-six", "200001-0x7", "200001-1e2", "200001-6.0", "200001-600.0", "200001-6_0", "200001-６００",
		// A bias that is too great.
		"200001-1001", "200001-1002", "200001-1010", "200001-1100", "200001-2000", "200001-9999", "200001-10000", "200001-999999999", "200001-100000000",
		// A bias with more than 9 digits.
		"200001-1000000000", "200001-9999999999", "200001-0000000600", "200001-4294967896", "200001-18446744073709551616", "200001-18446744073709552216", "200001-9223372036854775808",
		// Spaces and other bytes around a format.
		" 200001-600", "200001-600 ", "200001 -600", "200001- 600", "200001-60 0", "200001-600\n", "\n200001-600", "\t200001-600", "200001-600\x00", "\x00200001-600",
		"200001-600x", "200001-600.", "200001-600;", "200001-600/", "200001-600,", "200001-600\xff", "\xff200001-600", "name>=800/200001-600", "200001-600|", "200001-600 200001-600",
		// Bytes that are no text, and long strings.
		"\x80", "\xff\xfe", everyByte(), strings.Repeat("2", 100000) + "-600", "200001-" + strings.Repeat("6", 100000), "200001-" + strings.Repeat("0", 100000),
		"200001-" + strings.Repeat("0", 100000) + "6", "200001-600" + strings.Repeat(" ", 100000), strings.Repeat("-", 100000), strings.Repeat("200001-600", 10000),
		strings.Repeat("0", 100000) + "200001-600", strings.Repeat("200001", 10000), "200001" + strings.Repeat("-", 100000) + "600",
	} {
		checkNoScoring(t, s)
	}
}

// Every byte at the place of a digit or of the -.
func TestParseScoringOfEveryByte(t *testing.T) {
	all := everyByte()
	for i := range len(all) {
		b := all[i : i+1]
		for place := range 6 {
			checkParsedScoring(t, "200001"[:place]+b+"200001"[place+1:]+"-600")
			checkParsedScoring(t, "000000"[:place]+b+"000000"[place+1:]+"-600")
		}
		checkParsedScoring(t, "200001"+b+"600")
		checkParsedScoring(t, "200001-"+b)
		checkParsedScoring(t, "200001-"+b+"00")
		checkParsedScoring(t, "200001-6"+b+"0")
		checkParsedScoring(t, "200001-600"+b)
		checkParsedScoring(t, b+"200001-600")
		checkParsedScoring(t, b)
	}
}

var scoringFormat = regexp.MustCompile(`^[0-9]{6}-(0|[1-9][0-9]{0,2}|1000)$`)

// The promise: a string is parsed if it is the format of a scoring, which
// FormatScoring finds again, and no other string is. It returns whether it is one.
func checkParsedScoring(t *testing.T, s string) bool {
	t.Helper()
	if !scoringFormat.MatchString(s) || strings.HasPrefix(s, "000000") {
		checkNoScoring(t, s)
		return false
	}
	got, ok := impl.ParseScoring(s)
	if !ok || !impl.IsValidScoring(got) || impl.FormatScoring(got) != s || scoringText(got) != s {
		t.Errorf("ParseScoring(%q) = %v, %v", s, got, ok)
	}
	return true
}

func TestParseScoringOfEveryShortPart(t *testing.T) {
	parsed := 0
	check := func(s string) {
		if checkParsedScoring(t, s) {
			parsed++
		}
	}
	everyString("0179-+ x", 5, func(s string) {
		checkNoScoring(t, s)
		check(s + "-600")
		check("2" + s + "-600")
		check("00" + s + "-600")
		check("200001" + s)
		check("200001-" + s)
		check("100000-1" + s)
		check("20000" + s + "600")
	})
	if parsed < 1000 {
		t.Errorf("%d strings were parsed", parsed)
	}
	for bias := -2000; bias <= 20000; bias++ {
		checkParsedScoring(t, "200001-"+strconv.Itoa(bias))
	}
}

// Every change of one byte of a format gives another format or none.
func TestParseScoringOfEveryChange(t *testing.T) {
	for _, s := range []string{"200001-600", "000001-0", "100000-1000", "999999-7", "012340-10"} {
		if !checkParsedScoring(t, s) {
			t.Errorf("%q is no format", s)
		}
		everyChange(s, func(changed string) { checkParsedScoring(t, changed) })
	}
}

// callScoringFunctions calls all functions with the arguments and changes the result,
// which shows in the arguments if they share memory.
func callScoringFunctions(r impl.RuleSet, s impl.Scoring, f []int) {
	impl.IsValidScoring(s)
	impl.PairScore(s, f)
	impl.PairWeight(r, s, f)
	parsed, _ := impl.ParseScoring(impl.FormatScoring(s))
	spoil(parsed.Weights, -7)
}

func TestScoringArgumentsAreUnchanged(t *testing.T) {
	scorings := slices.Concat(validScorings(), badScorings())
	ruleSets, vectors := slices.Concat(validRuleSets(), badRuleSets()), slices.Concat(someVectors(), badVectors())
	for i := range max(len(scorings), len(ruleSets), len(vectors)) {
		original := scorings[i%len(scorings)]
		weights, allWeights := withSpareOf(original.Weights, 77)
		f, all := withSpareOf(vectors[i%len(vectors)], 77)
		r := roomyRules(ruleSets[i%len(ruleSets)])
		wantWeights, wantVector, wantRules := slices.Clone(allWeights), slices.Clone(all), wholeRules(r)
		callScoringFunctions(r, scoringOf(original.Bias, weights...), f)
		// A second vector, since either of both may be none.
		callScoringFunctions(r, scoringOf(original.Bias, weights...), vectorWith(i%6, 1000))
		if !slices.Equal(allWeights, wantWeights) {
			t.Errorf("the weights %v became %v", beginning(wantWeights), beginning(allWeights))
		}
		if !slices.Equal(all, wantVector) {
			t.Errorf("the vector %v became %v", beginning(wantVector), beginning(all))
		}
		if !areEqualRules(wholeRules(r), wantRules) {
			t.Errorf("the rules %v became %v", beginningOfRules(wantRules), beginningOfRules(wholeRules(r)))
		}
	}
}

func TestScoringResultsShareNoMemory(t *testing.T) {
	for _, s := range validScorings() {
		text := scoringText(s)
		parsed, _ := impl.ParseScoring(text)
		callScoringFunctions(rulesOf(ruleOf(atLeast(0, 1))), parsed, vectorWith())
		if !areEqualScorings(parsed, s) {
			t.Errorf("the scoring %q became %v with that of another call", text, parsed)
		}
		spoil(parsed.Weights, -7)
		if again, ok := impl.ParseScoring(text); !ok || !areEqualScorings(again, s) {
			t.Errorf("ParseScoring(%q) = %v, %v after another result was changed", text, again, ok)
		}
	}
}
