package tests

import (
	"math"
	"regexp"
	"slices"
	"strconv"
	"strings"
	"testing"

	"loop.example/g01923/impl"
)

var testedFeatures = []string{"name", "tokens", "sound", "city", "year", "phone"}

// someThresholds are valid ones, with each number of digits.
var someThresholds = []int{1, 2, 9, 10, 99, 100, 101, 500, 999, 1000}

var featuresOutOfRange = slices.Concat(integersFarOutside, []int{-2, -1, 6, 7, 256, 1000})

func atLeast(feature, threshold int) impl.Test {
	return impl.Test{Feature: feature, Threshold: threshold}
}

func below(feature, threshold int) impl.Test {
	return impl.Test{Feature: feature, Threshold: threshold, Below: true}
}

func ruleOf(tests ...impl.Test) impl.Rule {
	return impl.Rule{Tests: tests}
}

func rulesOf(rules ...impl.Rule) impl.RuleSet {
	return impl.RuleSet{Rules: rules}
}

// vectorWith returns the vector whose scores are 0 but for the given ones, each of
// which follows its feature.
func vectorWith(featuresAndScores ...int) []int {
	f := make([]int, impl.FeatureCount)
	for pair := range slices.Chunk(featuresAndScores, 2) {
		f[pair[0]] = pair[1]
	}
	return f
}

// everyKindOfRule returns a rule for each choice of one to three features and of
// Below. The thresholds change from rule to rule.
func everyKindOfRule() []impl.Rule {
	var rules []impl.Rule
	used := 0
	var extend func(tests []impl.Test, from int)
	extend = func(tests []impl.Test, from int) {
		if len(tests) > 0 {
			rules = append(rules, ruleOf(tests...))
		}
		if len(tests) == impl.MaxTests {
			return
		}
		for feature := from; feature < impl.FeatureCount; feature++ {
			for _, isBelow := range []bool{false, true} {
				used++
				test := impl.Test{Feature: feature, Threshold: someThresholds[used%len(someThresholds)], Below: isBelow}
				extend(append(slices.Clone(tests), test), feature+1)
			}
		}
	}
	extend(nil, 0)
	return rules
}

// everyRuleSet calls visit with a rule set for each one and each two kinds of
// rules, and for many of each three.
func everyRuleSet(visit func(impl.RuleSet)) {
	rules := everyKindOfRule()
	for i, a := range rules {
		visit(rulesOf(a))
		for j, b := range rules {
			visit(rulesOf(a, b))
			if j%13 == i%13 {
				for k := (i + j) % 11; k < len(rules); k += 11 {
					visit(rulesOf(a, b, rules[k]))
				}
			}
		}
	}
}

// rulesOver returns all rules with one or two tests of two features.
func rulesOver(first, second int, thresholds ...int) []impl.Rule {
	testsOf := func(feature int) []impl.Test {
		var tests []impl.Test
		for _, threshold := range thresholds {
			tests = append(tests, atLeast(feature, threshold), below(feature, threshold))
		}
		return tests
	}
	var rules []impl.Rule
	for _, a := range testsOf(first) {
		rules = append(rules, ruleOf(a))
		for _, b := range testsOf(second) {
			rules = append(rules, ruleOf(a, b))
		}
	}
	for _, b := range testsOf(second) {
		rules = append(rules, ruleOf(b))
	}
	return rules
}

// setsOf calls visit with all rule sets of one to most of the rules.
func setsOf(rules []impl.Rule, most int, visit func(impl.RuleSet)) {
	var extend func(chosen []impl.Rule)
	extend = func(chosen []impl.Rule) {
		if len(chosen) > 0 {
			visit(rulesOf(chosen...))
		}
		if len(chosen) == most {
			return
		}
		for _, rule := range rules {
			extend(append(slices.Clone(chosen), rule))
		}
	}
	extend(nil)
}

// rulesThatAlwaysHold hold for every feature vector.
func rulesThatAlwaysHold() []impl.RuleSet {
	var sets []impl.RuleSet
	for feature := range impl.FeatureCount {
		for _, threshold := range someThresholds {
			yes, no := ruleOf(atLeast(feature, threshold)), ruleOf(below(feature, threshold))
			other := ruleOf(below(0, 500), atLeast(3, 200))
			sets = append(sets, rulesOf(yes, no), rulesOf(no, yes), rulesOf(other, yes, no), rulesOf(no, other, yes), rulesOf(yes, no, other))
		}
	}
	return append(sets,
		rulesOf(ruleOf(below(0, 600)), ruleOf(atLeast(0, 300))),
		rulesOf(ruleOf(atLeast(4, 1)), ruleOf(below(4, 1000))),
		rulesOf(ruleOf(below(0, 500), below(1, 500)), ruleOf(atLeast(0, 500)), ruleOf(atLeast(1, 500))),
		rulesOf(ruleOf(atLeast(0, 500)), ruleOf(below(0, 500), below(5, 1)), ruleOf(atLeast(5, 1))),
		rulesOf(ruleOf(atLeast(2, 500)), ruleOf(below(2, 500), below(3, 400)), ruleOf(below(2, 700), atLeast(3, 300))),
		rulesOf(ruleOf(below(1, 200)), ruleOf(below(1, 700)), ruleOf(atLeast(1, 700))),
	)
}

// validRuleSets are of all sizes.
func validRuleSets() []impl.RuleSet {
	kinds := everyKindOfRule()
	sets := rulesThatAlwaysHold()
	for i, a := range kinds {
		b, c := kinds[(7*i+3)%len(kinds)], kinds[(11*i+100)%len(kinds)]
		sets = append(sets, rulesOf(a), rulesOf(b, a), rulesOf(c, a, b), rulesOf(a, a, a))
	}
	return sets
}

// rulesWithBadTests are not valid, for different reasons.
func rulesWithBadTests() []impl.Rule {
	many := func(n int) []impl.Test {
		tests := make([]impl.Test, n)
		for i := range tests {
			tests[i] = impl.Test{Feature: i, Threshold: 500, Below: i%2 == 1}
		}
		return tests
	}
	bad := []impl.Rule{
		{}, {Tests: []impl.Test{}}, {Tests: make([]impl.Test, 0, 3)}, {Tests: make([]impl.Test, 1)},
		ruleOf(many(4)...), ruleOf(many(5)...), ruleOf(many(6)...), ruleOf(many(7)...), ruleOf(many(1000)...),
		ruleOf(slices.Repeat([]impl.Test{atLeast(0, 1)}, 100000)...),
		// Equal and descending features.
		ruleOf(atLeast(0, 500), atLeast(0, 500)), ruleOf(atLeast(5, 300), below(5, 600)), ruleOf(below(2, 1), atLeast(2, 1)),
		ruleOf(atLeast(0, 1), atLeast(1, 1), atLeast(1, 1)), ruleOf(atLeast(0, 1), atLeast(0, 1), atLeast(1, 1)),
		ruleOf(atLeast(1, 1), atLeast(0, 1)), ruleOf(below(5, 1), below(4, 1)), ruleOf(atLeast(5, 1), below(0, 1)),
		ruleOf(atLeast(0, 1), atLeast(2, 1), atLeast(1, 1)), ruleOf(atLeast(1, 1), atLeast(0, 1), atLeast(2, 1)),
		ruleOf(atLeast(0, 1), atLeast(1, 1), atLeast(0, 1)), ruleOf(atLeast(2, 1), atLeast(1, 1), atLeast(0, 1)),
	}
	for place, isBelow := range []bool{false, true, false} {
		for _, feature := range featuresOutOfRange {
			tests := []impl.Test{atLeast(1, 500), below(2, 500), atLeast(3, 500)}
			tests[place].Feature, tests[place].Below = feature, isBelow
			bad = append(bad, ruleOf(tests...), ruleOf(tests[place]))
		}
		for _, threshold := range thresholdsOutOfRange {
			tests := []impl.Test{below(0, 500), atLeast(3, 500), below(5, 500)}
			tests[place].Threshold, tests[place].Below = threshold, isBelow
			bad = append(bad, ruleOf(tests...), ruleOf(tests[place]))
		}
	}
	return bad
}

// badRuleSets are not valid. The other rules of each one hold for some vectors.
func badRuleSets() []impl.RuleSet {
	good, other := ruleOf(atLeast(0, 1)), ruleOf(below(0, 1), below(3, 1000))
	bad := []impl.RuleSet{{}, {Rules: []impl.Rule{}}, {Rules: make([]impl.Rule, 0, 3)}, {Rules: make([]impl.Rule, 1)}, {Rules: make([]impl.Rule, 3)}}
	for _, n := range []int{4, 5, 100, 100000} {
		bad = append(bad, rulesOf(slices.Repeat([]impl.Rule{good}, n)...), rulesOf(make([]impl.Rule, n)...))
	}
	for _, rule := range rulesWithBadTests() {
		bad = append(bad, rulesOf(rule), rulesOf(rule, good), rulesOf(good, rule), rulesOf(rule, good, other), rulesOf(good, rule, other), rulesOf(good, other, rule))
	}
	return bad
}

// beginningOfRules is for messages, which are not to hold lists of any length.
func beginningOfRules(r impl.RuleSet) impl.RuleSet {
	rules := slices.Clone(beginning(r.Rules))
	for i, rule := range rules {
		rules[i].Tests = beginning(rule.Tests)
	}
	return rulesOf(rules...)
}

func areEqualRules(a, b impl.RuleSet) bool {
	return slices.EqualFunc(a.Rules, b.Rules, func(a, b impl.Rule) bool { return slices.Equal(a.Tests, b.Tests) })
}

func isVector(f []int) bool {
	return len(f) == 6 && slices.Min(f) >= 0 && slices.Max(f) <= 1000
}

// holdsInSteps is for features that exist and for feature vectors.
func holdsInSteps(tests []impl.Test, f []int) bool {
	for _, test := range tests {
		isBelow := f[test.Feature] < test.Threshold
		if isBelow != test.Below {
			return false
		}
	}
	return true
}

// firstInSteps is for valid rules and feature vectors.
func firstInSteps(r impl.RuleSet, f []int) int {
	for i, rule := range r.Rules {
		if holdsInSteps(rule.Tests, f) {
			return i
		}
	}
	return -1
}

// thresholdsInSteps returns the thresholds of the tests of a feature, ascending.
func thresholdsInSteps(r impl.RuleSet, feature int) []int {
	var thresholds []int
	for score := range 1001 {
		for _, rule := range r.Rules {
			for _, test := range rule.Tests {
				if test.Feature == feature && test.Threshold == score && !slices.Contains(thresholds, score) {
					thresholds = append(thresholds, score)
				}
			}
		}
	}
	return thresholds
}

// everyVector calls visit with all vectors over lists of scores, one list for each
// feature, in lexicographic order if the lists are ascending.
func everyVector(scores [][]int, visit func([]int)) {
	var extend func(f []int)
	extend = func(f []int) {
		if len(f) == len(scores) {
			visit(f)
			return
		}
		for _, score := range scores[len(f)] {
			extend(append(slices.Clone(f), score))
		}
	}
	extend(nil)
}

func levelsInSteps(r impl.RuleSet) [][]int {
	var levels [][]int
	for feature := range impl.FeatureCount {
		levels = append(levels, append([]int{0}, thresholdsInSteps(r, feature)...))
	}
	return levels
}

// vectorsBeside returns all vectors over the levels and the numbers beside them.
func vectorsBeside(r impl.RuleSet) [][]int {
	scores := levelsInSteps(r)
	for feature, levels := range scores {
		for _, level := range levels {
			for _, score := range []int{level - 1, level + 1} {
				if 0 <= score && score <= 1000 {
					scores[feature] = append(scores[feature], score)
				}
			}
		}
		slices.Sort(scores[feature])
		scores[feature] = slices.Compact(scores[feature])
	}
	var vectors [][]int
	everyVector(scores, func(f []int) { vectors = append(vectors, f) })
	return vectors
}

// violationInSteps is for valid rules. It returns the first grid vector and the
// first replacement in it that end the rules, or two nil lists.
func violationInSteps(r impl.RuleSet) ([]int, []int) {
	levels := levelsInSteps(r)
	var from, to []int
	everyVector(levels, func(f []int) {
		if from != nil || firstInSteps(r, f) < 0 {
			return
		}
		for feature, score := range f {
			for _, level := range levels[feature] {
				if level > score && from == nil {
					g := slices.Clone(f)
					g[feature] = level
					if firstInSteps(r, g) < 0 {
						from, to = f, g
					}
					break
				}
			}
		}
	})
	return from, to
}

// checkViolation checks what MonotoneViolation and IsMonotone of valid rules return,
// and returns whether they are monotone.
func checkViolation(t *testing.T, r impl.RuleSet) bool {
	t.Helper()
	wantFrom, wantTo := violationInSteps(r)
	from, to, ok := impl.MonotoneViolation(r)
	if ok != (wantFrom != nil) || !slices.Equal(from, wantFrom) || !slices.Equal(to, wantTo) {
		t.Errorf("MonotoneViolation(%v) = %v, %v, %v, want %v, %v", r, from, to, ok, wantFrom, wantTo)
	}
	if impl.IsMonotone(r) != (wantFrom == nil) {
		t.Errorf("IsMonotone(%v) = %v", r, wantFrom != nil)
	}
	if !ok {
		return wantFrom == nil
	}
	if !isVector(from) || !isVector(to) || !impl.DominatesFeatures(to, from) || !impl.RulesHold(r, from) || impl.RulesHold(r, to) {
		t.Errorf("MonotoneViolation(%v) = %v, %v", r, from, to)
		return false
	}
	different := 0
	for feature, score := range from {
		if to[feature] != score {
			different++
		}
	}
	if different != 1 {
		t.Errorf("MonotoneViolation(%v) = %v, %v", r, from, to)
	}
	return false
}

// checkDominating checks the promise for valid rules and the vectors, which include
// the grid vectors: the rules are monotone if and only if they hold for every vector
// that dominates one for which they hold.
func checkDominating(t *testing.T, r impl.RuleSet, vectors [][]int) bool {
	t.Helper()
	var holding, others [][]int
	for _, f := range vectors {
		if impl.RulesHold(r, f) {
			holding = append(holding, f)
		} else {
			others = append(others, f)
		}
	}
	monotone := impl.IsMonotone(r)
	for _, f := range holding {
		for _, g := range others {
			if impl.DominatesFeatures(g, f) {
				if monotone {
					t.Errorf("IsMonotone(%v) = true, but the rules hold for %v and not for %v", r, f, g)
				}
				return false
			}
		}
	}
	if !monotone {
		t.Errorf("IsMonotone(%v) = false", r)
	}
	return true
}

// checkDominatingOfSets checks all sets of up to most rules, of which at least few
// must be monotone and at least few must not.
func checkDominatingOfSets(t *testing.T, rules []impl.Rule, most, few int) {
	t.Helper()
	counts := map[bool]int{}
	setsOf(rules, most, func(r impl.RuleSet) { counts[checkDominating(t, r, vectorsBeside(r))]++ })
	if counts[true] < few || counts[false] < few {
		t.Errorf("%d rule sets are monotone, %d are not", counts[true], counts[false])
	}
}

// The promise.
func TestMonotoneRulesHoldForDominatingVectors(t *testing.T) {
	for _, features := range [][2]int{{0, 1}, {0, 5}, {3, 4}} {
		checkDominatingOfSets(t, rulesOver(features[0], features[1], 1, 500), 2, 50)
	}
	checkDominatingOfSets(t, append(rulesOver(0, 5, 500),
		ruleOf(atLeast(0, 501)), ruleOf(below(0, 501)), ruleOf(atLeast(0, 300), below(5, 501)), ruleOf(below(0, 501), atLeast(5, 500))), 3, 100)
}

func TestMonotoneRulesOfManyFeatures(t *testing.T) {
	for _, r := range []impl.RuleSet{
		rulesOf(ruleOf(atLeast(0, 1), atLeast(1, 500), atLeast(2, 1000))),
		rulesOf(ruleOf(atLeast(0, 800), atLeast(5, 400)), ruleOf(atLeast(1, 1000))),
		rulesOf(ruleOf(atLeast(0, 300), atLeast(1, 700)), ruleOf(atLeast(0, 700), atLeast(1, 300)), ruleOf(atLeast(0, 500), atLeast(1, 500))),
		rulesOf(ruleOf(atLeast(1, 2), atLeast(3, 3), atLeast(4, 4)), ruleOf(atLeast(1, 3), atLeast(3, 4), atLeast(4, 2))),
		// Rules with Below that is of no effect.
		rulesOf(ruleOf(below(0, 500), atLeast(5, 400)), ruleOf(atLeast(0, 500), atLeast(5, 400))),
		rulesOf(ruleOf(below(0, 500), below(3, 500)), ruleOf(atLeast(0, 500)), ruleOf(atLeast(3, 500))),
		rulesOf(ruleOf(atLeast(2, 900)), ruleOf(atLeast(1, 600), below(2, 900), atLeast(4, 100))),
		rulesOf(ruleOf(below(0, 600), atLeast(1, 400)), ruleOf(atLeast(0, 300), atLeast(1, 200))),
	} {
		if !checkDominating(t, r, vectorsBeside(r)) || !checkViolation(t, r) {
			t.Errorf("IsMonotone(%v) = false", r)
		}
	}
	for _, r := range []impl.RuleSet{
		rulesOf(ruleOf(atLeast(0, 1), atLeast(1, 500), below(2, 1000))),
		rulesOf(ruleOf(atLeast(0, 800), atLeast(5, 400)), ruleOf(below(1, 1))),
		rulesOf(ruleOf(below(0, 500), atLeast(5, 400)), ruleOf(atLeast(0, 501), atLeast(5, 400))),
		rulesOf(ruleOf(below(0, 500), atLeast(5, 400)), ruleOf(atLeast(0, 500), atLeast(5, 401))),
		rulesOf(ruleOf(below(0, 500), below(3, 500)), ruleOf(atLeast(0, 500)), ruleOf(atLeast(3, 501))),
		rulesOf(ruleOf(below(1, 2), below(3, 3), below(4, 4)), ruleOf(atLeast(1, 3)), ruleOf(atLeast(3, 4))),
	} {
		if checkDominating(t, r, vectorsBeside(r)) || checkViolation(t, r) {
			t.Errorf("IsMonotone(%v) = true", r)
		}
	}
}

// Rules without Below are monotone, whatever they test.
func TestRulesWithoutBelowAreMonotone(t *testing.T) {
	rules := slices.DeleteFunc(everyKindOfRule(), func(rule impl.Rule) bool {
		return slices.ContainsFunc(rule.Tests, func(test impl.Test) bool { return test.Below })
	})
	setsOf(rules, 2, func(r impl.RuleSet) {
		last := len(r.Rules[0].Tests) * 7 % len(rules)
		for _, set := range []impl.RuleSet{r, rulesOf(append(r.Rules, rules[last])...)} {
			if !checkViolation(t, set) {
				t.Errorf("IsMonotone(%v) = false", set)
			}
		}
	})
}

// One rule with Below ends where its feature becomes great enough.
func TestOneRuleWithBelowIsNotMonotone(t *testing.T) {
	for _, rule := range everyKindOfRule() {
		firstBelow := slices.IndexFunc(rule.Tests, func(test impl.Test) bool { return test.Below })
		if firstBelow < 0 {
			continue
		}
		r := rulesOf(rule)
		checkViolation(t, r)
		// The least vector for which the rule holds, and the first feature below.
		wantFrom := vectorWith()
		for _, test := range rule.Tests {
			if !test.Below {
				wantFrom[test.Feature] = test.Threshold
			}
		}
		wantTo := slices.Clone(wantFrom)
		wantTo[rule.Tests[firstBelow].Feature] = rule.Tests[firstBelow].Threshold
		from, to, _ := impl.MonotoneViolation(r)
		if !slices.Equal(from, wantFrom) || !slices.Equal(to, wantTo) {
			t.Errorf("MonotoneViolation(%v) = %v, %v, want %v, %v", r, from, to, wantFrom, wantTo)
		}
	}
}

// The edge case: rules that always hold.
func TestRulesThatAlwaysHold(t *testing.T) {
	vectors := someVectors()
	for _, r := range rulesThatAlwaysHold() {
		if !impl.IsValidRules(r) || !impl.IsMonotone(r) || !checkViolation(t, r) {
			t.Errorf("IsMonotone(%v) = false", r)
		}
		for _, f := range slices.Concat(vectors, vectorsBeside(r)) {
			if first := impl.FirstRule(r, f); first < 0 || first >= len(r.Rules) || !impl.RulesHold(r, f) {
				t.Errorf("FirstRule(%v, %v) = %d", r, f, first)
			}
		}
	}
	// Between these rules one score is left out.
	for feature := range impl.FeatureCount {
		for threshold := 1; threshold < 1000; threshold += 37 {
			r := rulesOf(ruleOf(below(feature, threshold)), ruleOf(atLeast(feature, threshold+1)))
			checkFirst(t, r, vectorWith(feature, threshold), -1)
			checkFirst(t, r, vectorWith(feature, threshold-1), 0)
			checkFirst(t, r, vectorWith(feature, threshold+1), 1)
			if checkViolation(t, r) {
				t.Errorf("IsMonotone(%v) = true", r)
			}
		}
	}
}

func TestMonotoneViolationValues(t *testing.T) {
	for _, c := range []struct {
		rules    impl.RuleSet
		from, to []int
	}{
		{rulesOf(ruleOf(below(0, 500))), vectorWith(), vectorWith(0, 500)},
		{rulesOf(ruleOf(below(5, 1))), vectorWith(), vectorWith(5, 1)},
		{rulesOf(ruleOf(below(5, 1000))), vectorWith(), vectorWith(5, 1000)},
		{rulesOf(ruleOf(atLeast(0, 700), below(4, 500))), vectorWith(0, 700), vectorWith(0, 700, 4, 500)},
		{rulesOf(ruleOf(below(0, 500), below(5, 500))), vectorWith(), vectorWith(0, 500)},
		{rulesOf(ruleOf(below(0, 300)), ruleOf(atLeast(0, 600))), vectorWith(), vectorWith(0, 300)},
		{rulesOf(ruleOf(atLeast(0, 600)), ruleOf(below(0, 300))), vectorWith(), vectorWith(0, 300)},
		// The next greater level is taken, and not any greater one.
		{rulesOf(ruleOf(below(0, 300)), ruleOf(below(0, 600))), vectorWith(0, 300), vectorWith(0, 600)},
		{rulesOf(ruleOf(below(0, 600)), ruleOf(below(0, 300)), ruleOf(below(0, 900))), vectorWith(0, 600), vectorWith(0, 900)},
		// The replaced feature is not the first one that has a greater level.
		{rulesOf(ruleOf(below(0, 500), below(1, 300)), ruleOf(atLeast(0, 500))), vectorWith(), vectorWith(1, 300)},
		{rulesOf(ruleOf(below(0, 500), below(5, 300)), ruleOf(atLeast(0, 500))), vectorWith(), vectorWith(5, 300)},
		// The first vectors for which the rules hold are followed by none.
		{rulesOf(ruleOf(atLeast(5, 100)), ruleOf(atLeast(0, 200), below(5, 50))), vectorWith(0, 200), vectorWith(0, 200, 5, 50)},
		{rulesOf(ruleOf(atLeast(1, 700)), ruleOf(atLeast(0, 300), below(2, 400))), vectorWith(0, 300), vectorWith(0, 300, 2, 400)},
		{rulesOf(ruleOf(atLeast(4, 10), atLeast(5, 20)), ruleOf(atLeast(3, 30), below(5, 20))), vectorWith(3, 30), vectorWith(3, 30, 5, 20)},
		// The first vector in lexicographic order, in which the last feature counts least.
		{rulesOf(ruleOf(atLeast(0, 1), below(1, 9)), ruleOf(atLeast(1, 9), below(5, 9))), vectorWith(0, 0, 1, 9), vectorWith(1, 9, 5, 9)},
		{rulesOf(ruleOf(atLeast(4, 9), below(5, 8)), ruleOf(below(4, 9), atLeast(5, 8))), vectorWith(5, 8), vectorWith(4, 9, 5, 8)},
	} {
		from, to, ok := impl.MonotoneViolation(c.rules)
		if !ok || !slices.Equal(from, c.from) || !slices.Equal(to, c.to) {
			t.Errorf("MonotoneViolation(%v) = %v, %v, %v, want %v, %v", c.rules, from, to, ok, c.from, c.to)
		}
		checkViolation(t, c.rules)
	}
}

func TestMonotoneViolationIsTheFirst(t *testing.T) {
	setsOf(rulesOver(0, 5, 1, 500), 3, func(r impl.RuleSet) { checkViolation(t, r) })
	setsOf(rulesOver(2, 3, 400, 401, 1000), 2, func(r impl.RuleSet) { checkViolation(t, r) })
	rules := []impl.Rule{
		ruleOf(atLeast(0, 200), below(1, 300), atLeast(2, 400)), ruleOf(below(0, 200), atLeast(1, 301), below(2, 400)),
		ruleOf(below(0, 201)), ruleOf(atLeast(1, 300)), ruleOf(below(2, 401)), ruleOf(below(1, 302)), ruleOf(atLeast(3, 1), below(5, 1000)),
		ruleOf(atLeast(0, 202), atLeast(1, 302), below(3, 402)), ruleOf(below(3, 1), below(4, 500)), ruleOf(atLeast(2, 1000), atLeast(3, 2), below(4, 500)),
	}
	setsOf(rules, 3, func(r impl.RuleSet) { checkViolation(t, r) })
}

func TestMonotoneViolationOfRulesThatAreNotValid(t *testing.T) {
	for _, r := range badRuleSets() {
		if from, to, ok := impl.MonotoneViolation(r); ok || from != nil || to != nil {
			t.Errorf("MonotoneViolation(%v) = %v, %v, %v", beginningOfRules(r), from, to, ok)
		}
		if impl.IsMonotone(r) {
			t.Errorf("IsMonotone(%v) = true", beginningOfRules(r))
		}
	}
}

func TestRuleConstants(t *testing.T) {
	if impl.MaxRules != 3 || impl.MaxTests != 3 {
		t.Error(impl.MaxRules, impl.MaxTests)
	}
}

func checkValidRules(t *testing.T, r impl.RuleSet, want bool) {
	t.Helper()
	if got := impl.IsValidRules(r); got != want {
		t.Errorf("IsValidRules(%v) = %v", beginningOfRules(r), got)
	}
}

func TestIsValidRulesOfCounts(t *testing.T) {
	rule := ruleOf(atLeast(0, 500))
	tests := []impl.Test{atLeast(0, 500), below(1, 500), atLeast(2, 500), below(3, 500), atLeast(4, 500), below(5, 500)}
	for n := range 6 {
		checkValidRules(t, rulesOf(slices.Repeat([]impl.Rule{rule}, n)...), 1 <= n && n <= 3)
		checkValidRules(t, rulesOf(ruleOf(tests[:n]...)), 1 <= n && n <= 3)
		checkValidRules(t, rulesOf(rule, ruleOf(tests[:n]...)), 1 <= n && n <= 3)
		checkValidRules(t, rulesOf(rule, rule, ruleOf(tests[6-n:]...)), 1 <= n && n <= 3)
	}
	checkValidRules(t, impl.RuleSet{}, false)
	checkValidRules(t, rulesOf(impl.Rule{}), false)
	checkValidRules(t, rulesOf(rule, impl.Rule{}), false)
	checkValidRules(t, rulesOf(impl.Rule{}, rule), false)
}

func TestIsValidRulesOfFeatures(t *testing.T) {
	for a := -3; a <= 9; a++ {
		isFeature := 0 <= a && a <= 5
		for _, isBelow := range []bool{false, true} {
			checkValidRules(t, rulesOf(ruleOf(impl.Test{Feature: a, Threshold: 500, Below: isBelow})), isFeature)
		}
		for b := -3; b <= 9; b++ {
			valid := 0 <= a && a < b && b <= 5
			checkValidRules(t, rulesOf(ruleOf(atLeast(a, 500), below(b, 500))), valid)
			checkValidRules(t, rulesOf(ruleOf(below(a, 300), below(b, 600))), valid)
			for c := -3; c <= 9; c++ {
				checkValidRules(t, rulesOf(ruleOf(atLeast(a, 1), atLeast(b, 2), below(c, 3))), valid && b < c && c <= 5)
			}
			// The features of different rules may be in any order.
			checkValidRules(t, rulesOf(ruleOf(atLeast(a, 500)), ruleOf(atLeast(b, 500))), isFeature && 0 <= b && b <= 5)
		}
	}
}

func TestIsValidRulesOfThresholds(t *testing.T) {
	for threshold := -1100; threshold <= 1100; threshold++ {
		valid := 1 <= threshold && threshold <= 1000
		for feature := range impl.FeatureCount {
			checkValidRules(t, rulesOf(ruleOf(atLeast(feature, threshold))), valid)
			checkValidRules(t, rulesOf(ruleOf(below(feature, threshold))), valid)
		}
		checkValidRules(t, rulesOf(ruleOf(atLeast(0, 1000), below(2, threshold))), valid)
		checkValidRules(t, rulesOf(ruleOf(atLeast(0, 1)), ruleOf(below(1, threshold), atLeast(5, 1))), valid)
	}
}

func TestIsValidRulesValues(t *testing.T) {
	for _, r := range validRuleSets() {
		checkValidRules(t, r, true)
	}
	for _, r := range badRuleSets() {
		checkValidRules(t, r, false)
	}
}

func checkTest(t *testing.T, test impl.Test, f []int, want bool) {
	t.Helper()
	if got := impl.TestHolds(test, f); got != want {
		t.Errorf("TestHolds(%v, %v) = %v", test, beginning(f), got)
	}
}

func checkRule(t *testing.T, rule impl.Rule, f []int, want bool) {
	t.Helper()
	if got := impl.RuleHolds(rule, f); got != want {
		t.Errorf("RuleHolds(%v, %v) = %v", beginning(rule.Tests), beginning(f), got)
	}
}

// checkScore checks a test of a feature, and a rule with this test, where all other
// features of the vector have another score.
func checkScore(t *testing.T, feature, threshold, score int, wantAtLeast bool) {
	t.Helper()
	for _, others := range []int{0, 500, 1000} {
		f := slices.Repeat([]int{others}, impl.FeatureCount)
		f[feature] = score
		for _, isBelow := range []bool{false, true} {
			test := impl.Test{Feature: feature, Threshold: threshold, Below: isBelow}
			checkTest(t, test, f, wantAtLeast != isBelow)
			checkRule(t, ruleOf(test), f, wantAtLeast != isBelow)
		}
	}
}

func TestTestHoldsAtTheThreshold(t *testing.T) {
	for feature := range impl.FeatureCount {
		for threshold := 1; threshold <= 1000; threshold++ {
			checkScore(t, feature, threshold, threshold-1, false)
			checkScore(t, feature, threshold, threshold, true)
			if threshold < 1000 {
				checkScore(t, feature, threshold, threshold+1, true)
			}
		}
		for _, threshold := range someThresholds {
			for score := range 1001 {
				checkScore(t, feature, threshold, score, score >= threshold)
			}
		}
	}
}

// A test does not ask whether its threshold is that of a valid rule.
func TestTestHoldsWithThresholdsOutOfRange(t *testing.T) {
	for feature := range impl.FeatureCount {
		for _, threshold := range thresholdsOutOfRange {
			for _, score := range []int{0, 1, 500, 999, 1000} {
				checkScore(t, feature, threshold, score, threshold <= 0)
			}
		}
	}
}

func TestTestHoldsOfFeaturesThatDoNotExist(t *testing.T) {
	for _, feature := range featuresOutOfRange {
		for _, threshold := range []int{math.MinInt, -1, 0, 1, 500, 1000, 1001, math.MaxInt} {
			for _, f := range [][]int{vectorWith(), vectorWith(0, 1000, 5, 1000), slices.Repeat([]int{1000}, 6), nil, slices.Repeat([]int{500}, 7)} {
				for _, test := range []impl.Test{atLeast(feature, threshold), below(feature, threshold)} {
					checkTest(t, test, f, false)
					checkRule(t, ruleOf(test), f, false)
					checkRule(t, ruleOf(atLeast(0, 0), test), f, false)
					checkRule(t, ruleOf(test, atLeast(0, 0)), f, false)
				}
			}
		}
	}
}

// Nothing holds for a list that is no feature vector.
func TestNothingHoldsForListsThatAreNoVectors(t *testing.T) {
	thresholds := []int{math.MinInt, -1, 0, 1, 500, 1000, 1001, math.MaxInt}
	for _, f := range badVectors() {
		for feature := -1; feature <= impl.FeatureCount; feature++ {
			for _, threshold := range thresholds {
				checkTest(t, atLeast(feature, threshold), f, false)
				checkTest(t, below(feature, threshold), f, false)
				checkRule(t, ruleOf(atLeast(feature, threshold)), f, false)
				checkRule(t, ruleOf(below(feature, threshold)), f, false)
			}
		}
		checkRule(t, impl.Rule{}, f, false)
		checkRule(t, ruleOf(atLeast(0, 0), below(0, 2000)), f, false)
		for feature := range impl.FeatureCount {
			checkFirst(t, rulesOf(ruleOf(atLeast(feature, 1))), f, -1)
			checkFirst(t, rulesOf(ruleOf(atLeast(feature, 500)), ruleOf(below(feature, 500))), f, -1)
		}
		checkFirst(t, impl.RuleSet{}, f, -1)
	}
}

// A rule without tests has none that does not hold.
func TestRuleHoldsWithoutTests(t *testing.T) {
	for _, f := range someVectors() {
		for _, rule := range []impl.Rule{{}, {Tests: []impl.Test{}}, {Tests: make([]impl.Test, 0, 3)}} {
			checkRule(t, rule, f, true)
			checkFirst(t, rulesOf(rule), f, -1)
		}
	}
}

func TestRuleHoldsValues(t *testing.T) {
	rule := ruleOf(atLeast(0, 800), below(4, 500), atLeast(5, 400))
	for _, c := range []struct {
		f    []int
		want bool
	}{
		{[]int{800, 0, 0, 0, 499, 400}, true},
		{[]int{1000, 1000, 1000, 1000, 0, 1000}, true},
		{[]int{800, 1, 2, 3, 499, 400}, true},
		{[]int{799, 0, 0, 0, 499, 400}, false},
		{[]int{800, 0, 0, 0, 500, 400}, false},
		{[]int{800, 0, 0, 0, 499, 399}, false},
		{[]int{799, 0, 0, 0, 500, 399}, false},
		{[]int{0, 0, 0, 0, 0, 0}, false},
		{[]int{1000, 1000, 1000, 1000, 1000, 1000}, false},
	} {
		checkRule(t, rule, c.f, c.want)
		for i, test := range rule.Tests {
			checkTest(t, test, c.f, c.f[test.Feature] >= test.Threshold != test.Below)
			checkRule(t, ruleOf(rule.Tests[i]), c.f, c.f[test.Feature] >= test.Threshold != test.Below)
		}
	}
}

func TestRuleHoldsIfAllTestsHold(t *testing.T) {
	vectors := someVectors()
	for _, rule := range everyKindOfRule() {
		for _, f := range slices.Concat(vectors, vectorsBeside(rulesOf(rule))) {
			checkRule(t, rule, f, holdsInSteps(rule.Tests, f))
		}
	}
}

// RuleHolds does not ask whether the rule is valid.
func TestRuleHoldsOfRulesThatAreNotValid(t *testing.T) {
	// Features that are equal or descend.
	between := ruleOf(atLeast(2, 300), below(2, 600))
	descending := ruleOf(below(5, 600), atLeast(2, 300))
	for score := range 1001 {
		checkRule(t, between, vectorWith(2, score), 300 <= score && score < 600)
		checkRule(t, descending, vectorWith(2, score), 300 <= score)
		checkRule(t, descending, vectorWith(2, 300, 5, score), score < 600)
		checkRule(t, ruleOf(atLeast(1, 500), below(1, 500)), vectorWith(1, score), false)
	}
	// Too many tests.
	six := ruleOf(atLeast(0, 1), atLeast(1, 2), atLeast(2, 3), below(3, 4), below(4, 5), below(5, 6))
	checkRule(t, six, []int{1, 2, 3, 3, 4, 5}, true)
	for feature, score := range []int{0, 1, 2, 4, 5, 6} {
		f := []int{1, 2, 3, 3, 4, 5}
		f[feature] = score
		checkRule(t, six, f, false)
	}
	many := slices.Repeat([]impl.Test{atLeast(3, 7)}, 100000)
	checkRule(t, ruleOf(many...), vectorWith(3, 7), true)
	checkRule(t, ruleOf(append(many, below(3, 7))...), vectorWith(3, 7), false)
	// Thresholds out of range.
	for _, f := range someVectors() {
		checkRule(t, ruleOf(atLeast(0, 0)), f, true)
		checkRule(t, ruleOf(atLeast(0, math.MinInt), below(0, math.MaxInt)), f, true)
		checkRule(t, ruleOf(atLeast(1, 1001)), f, false)
		checkRule(t, ruleOf(atLeast(1, math.MaxInt)), f, false)
		checkRule(t, ruleOf(below(2, 1001)), f, true)
		checkRule(t, ruleOf(below(2, 0)), f, false)
		checkRule(t, ruleOf(below(2, math.MinInt)), f, false)
		checkRule(t, impl.Rule{Tests: make([]impl.Test, 7)}, f, true)
	}
}

// checkFirst checks RulesHold, too.
func checkFirst(t *testing.T, r impl.RuleSet, f []int, want int) {
	t.Helper()
	if got := impl.FirstRule(r, f); got != want {
		t.Errorf("FirstRule(%v, %v) = %d, want %d", beginningOfRules(r), beginning(f), got, want)
	}
	if got := impl.RulesHold(r, f); got != (want != -1) {
		t.Errorf("RulesHold(%v, %v) = %v", beginningOfRules(r), beginning(f), got)
	}
}

func TestFirstRuleValues(t *testing.T) {
	two := rulesOf(ruleOf(atLeast(0, 800), atLeast(5, 400)), ruleOf(atLeast(1, 1000)))
	checkFirst(t, two, []int{800, 0, 0, 0, 0, 400}, 0)
	checkFirst(t, two, []int{0, 1000, 0, 0, 0, 0}, 1)
	checkFirst(t, two, []int{800, 1000, 0, 0, 0, 400}, 0)
	checkFirst(t, two, []int{799, 999, 1000, 1000, 1000, 1000}, -1)
	checkFirst(t, two, []int{800, 999, 0, 0, 0, 399}, -1)
	checkFirst(t, two, []int{799, 1000, 0, 0, 0, 1000}, 1)
	checkFirst(t, two, vectorWith(), -1)
	checkFirst(t, two, slices.Repeat([]int{1000}, 6), 0)
	three := rulesOf(ruleOf(atLeast(4, 900)), ruleOf(below(4, 500), atLeast(3, 1)), ruleOf(atLeast(4, 300)))
	// The features of the second rule descend.
	checkFirst(t, three, vectorWith(4, 900), -1)
	slices.Reverse(three.Rules[1].Tests)
	checkFirst(t, three, vectorWith(4, 900), 0)
	checkFirst(t, three, vectorWith(4, 899), 2)
	checkFirst(t, three, vectorWith(4, 300), 2)
	checkFirst(t, three, vectorWith(4, 300, 3, 1), 1)
	checkFirst(t, three, vectorWith(4, 299), -1)
	checkFirst(t, three, vectorWith(3, 1000), 1)
	checkFirst(t, rulesOf(three.Rules[2], three.Rules[0]), vectorWith(4, 900), 0)
	equal := rulesOf(ruleOf(below(2, 5)), ruleOf(below(2, 5)), ruleOf(below(2, 5)))
	checkFirst(t, equal, vectorWith(2, 4), 0)
	checkFirst(t, equal, vectorWith(2, 5), -1)
}

func TestFirstRuleFollowsTheDefinition(t *testing.T) {
	vectors := someVectors()
	found := map[int]int{}
	for _, r := range validRuleSets() {
		for _, f := range vectors {
			want := firstInSteps(r, f)
			checkFirst(t, r, f, want)
			found[want]++
		}
	}
	setsOf(rulesOver(1, 4, 500, 1000), 2, func(r impl.RuleSet) {
		for _, f := range vectorsBeside(r) {
			checkFirst(t, r, f, firstInSteps(r, f))
		}
	})
	for first := -1; first <= 2; first++ {
		if found[first] < 1000 {
			t.Errorf("FirstRule is %d for %d vectors", first, found[first])
		}
	}
}

// Rules that are not valid do not hold, even if their tests do.
func TestFirstRuleOfRulesThatAreNotValid(t *testing.T) {
	bad := badVectors()
	for i, r := range badRuleSets() {
		for _, f := range [][]int{vectorWith(), slices.Repeat([]int{1000}, 6), slices.Repeat([]int{500}, 6), vectorWith(0, 1), nil, bad[i%len(bad)]} {
			checkFirst(t, r, f, -1)
		}
	}
}

// rulesText is for rules whose features exist.
func rulesText(r impl.RuleSet) string {
	var rules []string
	for _, rule := range r.Rules {
		var tests []string
		for _, test := range rule.Tests {
			mark := ">="
			if test.Below {
				mark = "<"
			}
			tests = append(tests, testedFeatures[test.Feature]+mark+strconv.Itoa(test.Threshold))
		}
		rules = append(rules, strings.Join(tests, ","))
	}
	return strings.Join(rules, " or ")
}

// checkRulesText checks that the rules and the text are each other's format.
func checkRulesText(t *testing.T, r impl.RuleSet, text string) {
	t.Helper()
	if got := impl.FormatRules(r); got != text {
		t.Errorf("FormatRules(%v) = %q, want %q", r, got, text)
	}
	if got, ok := impl.ParseRules(text); !ok || !areEqualRules(got, r) {
		t.Errorf("ParseRules(%q) = %v, %v", text, got, ok)
	}
}

func TestFormatRulesValues(t *testing.T) {
	for text, r := range map[string]impl.RuleSet{
		"name>=800,phone>=400 or tokens>=1000": rulesOf(ruleOf(atLeast(0, 800), atLeast(5, 400)), ruleOf(atLeast(1, 1000))),
		"name>=700,year<500":                   rulesOf(ruleOf(atLeast(0, 700), below(4, 500))),
		"phone<500 or phone>=500":              rulesOf(ruleOf(below(5, 500)), ruleOf(atLeast(5, 500))),
		"sound<1":                              rulesOf(ruleOf(below(2, 1))),
		"city>=1":                              rulesOf(ruleOf(atLeast(3, 1))),
		"year<1000":                            rulesOf(ruleOf(below(4, 1000))),
		"name<10,tokens<20,sound<30 or city<40,year<50,phone<60 or name>=1,tokens>=22,sound>=333": rulesOf(
			ruleOf(below(0, 10), below(1, 20), below(2, 30)), ruleOf(below(3, 40), below(4, 50), below(5, 60)),
			ruleOf(atLeast(0, 1), atLeast(1, 22), atLeast(2, 333))),
		"name>=5 or name>=5 or name>=5": rulesOf(ruleOf(atLeast(0, 5)), ruleOf(atLeast(0, 5)), ruleOf(atLeast(0, 5))),
		"city<1 or name<1":              rulesOf(ruleOf(below(3, 1)), ruleOf(below(0, 1))),
	} {
		checkRulesText(t, r, text)
	}
}

// The promise: rules can be parsed from their string format.
func TestParseRulesReadsEveryFormat(t *testing.T) {
	shapes := map[[3]int]int{}
	everyRuleSet(func(r impl.RuleSet) {
		checkRulesText(t, r, rulesText(r))
		var shape [3]int
		for i, rule := range r.Rules {
			shape[i] = len(rule.Tests)
		}
		shapes[shape]++
	})
	// Each number of rules and each number of tests in each of them.
	if len(shapes) != 3+9+27 {
		t.Errorf("%d shapes: %v", len(shapes), shapes)
	}
	for threshold := 1; threshold <= 1000; threshold++ {
		for feature := range impl.FeatureCount {
			for _, test := range []impl.Test{atLeast(feature, threshold), below(feature, threshold)} {
				r := rulesOf(ruleOf(test), ruleOf(atLeast(0, 800), below(4, threshold)))
				checkRulesText(t, r, rulesText(r))
			}
		}
	}
}

func TestFormatRulesOfRulesThatAreNotValid(t *testing.T) {
	for _, r := range badRuleSets() {
		if got := impl.FormatRules(r); got != "" {
			t.Errorf("FormatRules(%v) = %q", beginningOfRules(r), got)
		}
	}
}

func checkNoRules(t *testing.T, s string) {
	t.Helper()
	if r, ok := impl.ParseRules(s); ok || len(r.Rules) != 0 {
		t.Errorf("ParseRules(%q) = %v, %v", s[:min(len(s), 100)], r, ok)
	}
}

func TestParseRulesRefuses(t *testing.T) {
	for _, s := range []string{
		"", " ", ",", "or", " or ", " or  or ", ",,", "none", "true", "name", "name>=", "name<", ">=", "<", ">=1", "<1", "1", "1000",
		// An unknown or a misspelled name.
		"x>=1", "names>=1", "nam>=1", "feature>=1", "0>=1", "id<5", "key>=1", "name>=1,x>=1", "x>=1,name>=1", "name>=1 or x>=1",
		// Thresholds that no test has.
		"name>=0", "name>=1001", "name>=01", "name>=0800", "name>=00", "name>=+1", "name>=-1", "name>= 1", "name>=1 ", "name>=1\n",
		"name<0", "name<1001", "name<01", "name<+5", "name<-5", "name< 5", "name<5 ", "name>=9999", "name>=1000000000", "name>=0x1",
		"name>=1.0", "name>=1e2", "name>=１", "name>=18446744073709551617", "name>=4294967297", "name>=x", "name>=-0", "name>=1_0",
		// Another comparison than >= and <.
		"name>800", "name<=800", "name=800", "name==800", "name!=800", "name=>800", "name=<800", "name>>800", "name<<800", "name≥800",
		"name>=>=800", "name>=<800", "name<>=800", "name>==800", "name > 800", "name >=800", "name >= 800", "name> =800", "name:800", "name800", "name 800",
		// An empty rule or an empty test.
		"name>=1 or ", " or name>=1", "name>=1 or  or name>=2", "name>=1,", ",name>=1", "name>=1,,phone>=2", "name>=1, or phone>=2",
		"name>=1 or ,phone>=2", "name>=1 or ,", "name>=1 or phone>=2,", "name>=1 or phone>=2 or ", " or name>=1 or phone>=2",
		// Other separators.
		"name>=1or phone>=2", "name>=1 orphone>=2", "name>=1orphone>=2", "name>=1 or  phone>=2", "name>=1  or phone>=2", "name>=1\tor\tphone>=2",
		"name>=1 OR phone>=2", "name>=1 Or phone>=2", "name>=1 and phone>=2", "name>=1|phone>=2", "name>=1;phone>=2", "name>=1, phone>=2",
		"name>=1 ,phone>=2", "name>=1 phone>=2", "name>=1 or\nphone>=2", "name>=1\u00a0or phone>=2", "name>=1 or or phone>=2", "name>=1 o phone>=2",
		// Upper case.
		"NAME>=1", "Name>=1", "namE>=1", "name>=1,PHONE>=2", "name>=1 or City<2",
		// Four rules or four tests.
		"name>=1 or name>=2 or name>=3 or name>=4", "name>=1 or tokens>=2 or sound>=3 or city>=4 or year>=5",
		"name>=1,tokens>=2,sound>=3,city>=4", "name>=1,tokens>=2,sound>=3,city>=4,year>=5,phone>=6", "phone>=1 or name>=1,tokens>=2,sound>=3,city>=4",
		// Features that do not ascend.
		"name>=1,name>=1", "name>=300,name<600", "name<1,name>=1", "phone>=1,name>=1", "tokens>=1,name>=1", "name>=1,sound>=1,tokens>=1",
		"tokens>=1,name>=1,phone>=1", "name>=1,phone>=1,phone>=1", "name>=1 or phone>=1,name>=1", "phone<1,year<1,city<1",
		// Something around a format.
		" name>=1", "[name>=1]", "(name>=1)", "name>=1.", "name>=1\x00", "\x00name>=1", "name>=1/100001-500",
		// Bytes that are no text, and long strings.
		"\x80", "\xff\xfe", "name>=\xff", "n\xc3me>=1", "name\xff>=1", "name>=1\xff", "name>=1 or \x80>=1", everyByte(),
		strings.Repeat("name>=1 or ", 100000), strings.Repeat("name>=1,", 100000), strings.Repeat(" or ", 100000), strings.Repeat(",", 100000),
		strings.Repeat("name>=1 or ", 100000) + "name>=1", strings.Repeat(">=", 100000), "name>=" + strings.Repeat("0", 100000) + "1", "name>=1" + strings.Repeat("0", 100000),
	} {
		checkNoRules(t, s)
	}
}

// A format with one part of one test replaced is none.
func TestParseRulesRefusesBadParts(t *testing.T) {
	surround := []func(string) string{
		func(test string) string { return test },
		func(test string) string { return "name>=10," + test + ",phone<20" },
		func(test string) string { return test + ",phone>=30 or name>=10" },
		func(test string) string { return "year<40 or phone>=50 or name<60," + test },
	}
	for _, surrounded := range surround {
		for feature := 1; feature <= 4; feature++ {
			name := testedFeatures[feature]
			for _, threshold := range []string{"1", "999", "1000"} {
				s := surrounded(name + ">=" + threshold)
				if r, ok := impl.ParseRules(s); !ok || rulesText(r) != s {
					t.Errorf("ParseRules(%q) = %v, %v", s, r, ok)
				}
			}
			for _, mark := range []string{"", ">", "=", "<=", "==", "=>", ">==", "<<", ">=<", "<>=", "<>", " >=", ">= ", " <", "< ", "\x00", "≥"} {
				checkNoRules(t, surrounded(name+mark+"500"))
			}
			for _, threshold := range []string{"", "0", "00", "01", "0500", "1001", "9999", "10000", "+5", "-5", " 5", "5 ", "5.0", "x", "5<", ">=5", "999999999", "1000000000", "18446744073709552116"} {
				checkNoRules(t, surrounded(name+">="+threshold))
				checkNoRules(t, surrounded(name+"<"+threshold))
			}
			upper := strings.ToUpper(name)
			for _, other := range []string{"", upper, upper[:1] + name[1:], name[1:], name[:len(name)-1], name + "s", " " + name, name + " ", name + "\x00", name + name, "6", "-1"} {
				checkNoRules(t, surrounded(other+">=500"))
				checkNoRules(t, surrounded(other+"<500"))
			}
		}
	}
}

// The T stands for the format of a test and the R for that of a rule.
var rulesFormat = regexp.MustCompile(strings.NewReplacer(
	"T", `(name|tokens|sound|city|year|phone)(>=|<)([1-9][0-9]{0,2}|1000)`).Replace(
	strings.ReplaceAll(`^R( or R){0,2}$`, "R", `T(,T){0,2}`)))

var nameInRules = regexp.MustCompile(`^[a-z]*`)

func haveAscendingFeatures(s string) bool {
	for rule := range strings.SplitSeq(s, " or ") {
		previous := -1
		for test := range strings.SplitSeq(rule, ",") {
			feature := slices.Index(testedFeatures, nameInRules.FindString(test))
			if feature <= previous {
				return false
			}
			previous = feature
		}
	}
	return true
}

// The promise: a string is parsed if it is the format of rules, which FormatRules
// finds again, and no other string is. It returns whether it is one.
func checkParsedRules(t *testing.T, s string) bool {
	t.Helper()
	if !rulesFormat.MatchString(s) || !haveAscendingFeatures(s) {
		checkNoRules(t, s)
		return false
	}
	r, ok := impl.ParseRules(s)
	if !ok || !impl.IsValidRules(r) || impl.FormatRules(r) != s || rulesText(r) != s {
		t.Errorf("ParseRules(%q) = %v, %v", s, r, ok)
	}
	return true
}

func TestParseRulesOfEveryShortPart(t *testing.T) {
	parsed := 0
	check := func(s string) {
		if checkParsedRules(t, s) {
			parsed++
		}
	}
	everyString("019<>=, -", 4, func(s string) {
		checkNoRules(t, s)
		check("name" + s)
		check("name>=" + s)
		check("name<" + s)
		check("city<" + s + ",phone>=5 or name>=1")
		check("city<5,phone" + s + "7 or name>=1")
		check("city<5" + s + "phone<6")
	})
	everyString(" or,", 5, func(s string) {
		checkNoRules(t, s)
		check("phone>=1" + s + "phone>=2")
		check("name>=1" + s + "phone>=2")
		check(s + "name>=1")
		check("name>=1" + s)
	})
	if parsed < 100 {
		t.Errorf("%d strings were parsed", parsed)
	}
}

// Every sequence of up to four tests, in rules or in one, is parsed if it may be.
func TestParseRulesOfEverySequence(t *testing.T) {
	parsed := 0
	for _, separators := range [][]string{{""}, {",", " or "}} {
		everyList([]string{"name>=1", "name<5", "sound<10", "phone>=99", "x>=1", ""}, 4, func(tests []string) {
			for choice := range 1 << max(0, len(tests)-1) {
				var s strings.Builder
				for i, test := range tests {
					if i > 0 {
						s.WriteString(separators[choice>>(i-1)&1%len(separators)])
					}
					s.WriteString(test)
				}
				if checkParsedRules(t, s.String()) {
					parsed++
				}
			}
		})
	}
	if parsed < 100 {
		t.Errorf("%d sequences were parsed", parsed)
	}
}

// Every change of one byte of a format gives another format or none.
func TestParseRulesOfEveryChange(t *testing.T) {
	for _, s := range []string{
		"name>=800,phone>=400 or tokens>=1000", "name>=1", "year<999", "phone<10 or phone>=10",
		"name<10,tokens<20,sound<30 or city<40,year<50,phone<60 or name>=1,tokens>=22,sound>=333",
	} {
		if !checkParsedRules(t, s) {
			t.Errorf("%q is no format", s)
		}
		everyChange(s, func(changed string) { checkParsedRules(t, changed) })
	}
}

// roomyRules returns a copy of the rules whose slices have unused capacity.
func roomyRules(r impl.RuleSet) impl.RuleSet {
	spare := atLeast(5, 77)
	rules, _ := withSpareOf(r.Rules, ruleOf(spare))
	for i := range rules {
		rules[i].Tests, _ = withSpareOf(rules[i].Tests, spare)
	}
	return rulesOf(rules...)
}

// wholeRules returns a copy of all memory of the rules.
func wholeRules(r impl.RuleSet) impl.RuleSet {
	rules := slices.Clone(r.Rules[:cap(r.Rules)])
	for i, rule := range rules {
		rules[i].Tests = slices.Clone(rule.Tests[:cap(rule.Tests)])
	}
	return rulesOf(rules...)
}

func spoilRules(r impl.RuleSet) {
	for _, rule := range r.Rules[:cap(r.Rules)] {
		spoil(rule.Tests, below(-7, -7))
	}
	spoil(r.Rules, impl.Rule{})
}

// callRuleFunctions calls all functions with the rules and changes their results,
// which shows in the arguments if they share memory.
func callRuleFunctions(r impl.RuleSet, f []int) {
	impl.IsValidRules(r)
	impl.FirstRule(r, f)
	impl.RulesHold(r, f)
	impl.IsMonotone(r)
	from, to, _ := impl.MonotoneViolation(r)
	spoil(from, -7)
	spoil(to, -7)
	parsed, _ := impl.ParseRules(impl.FormatRules(r))
	spoilRules(parsed)
	for _, rule := range beginning(r.Rules) {
		impl.RuleHolds(rule, f)
		for _, test := range beginning(rule.Tests) {
			impl.TestHolds(test, f)
		}
	}
}

func TestRuleArgumentsAreUnchanged(t *testing.T) {
	vectors := slices.Concat(someVectors(), badVectors())
	for i, original := range slices.Concat(validRuleSets(), badRuleSets()) {
		r := roomyRules(original)
		f, all := withSpareOf(vectors[i%len(vectors)], 77)
		wantRules, wantVector := wholeRules(r), slices.Clone(all)
		callRuleFunctions(r, f)
		if !areEqualRules(wholeRules(r), wantRules) {
			t.Errorf("the rules %v became %v", beginningOfRules(wantRules), beginningOfRules(wholeRules(r)))
		}
		if !slices.Equal(all, wantVector) {
			t.Errorf("the vector %v became %v", beginning(wantVector), beginning(all))
		}
	}
}

func TestRuleResultsShareNoMemory(t *testing.T) {
	for _, r := range validRuleSets() {
		text := rulesText(r)
		parsed, _ := impl.ParseRules(text)
		from, to, _ := impl.MonotoneViolation(r)
		wantFrom, wantTo := violationInSteps(r)
		callRuleFunctions(r, vectorWith())
		if !areEqualRules(parsed, r) {
			t.Errorf("the rules %q became %v with those of another call", text, parsed)
		}
		if !slices.Equal(from, wantFrom) || !slices.Equal(to, wantTo) {
			t.Errorf("the vectors %v and %v became %v and %v with those of another call", wantFrom, wantTo, from, to)
		}
		spoil(from, -7)
		if !slices.Equal(to, wantTo) {
			t.Errorf("the vector %v became %v with the one before it", wantTo, to)
		}
		from, to, _ = impl.MonotoneViolation(r)
		spoil(to, -7)
		if !slices.Equal(from, wantFrom) {
			t.Errorf("the vector %v became %v with the one after it", wantFrom, from)
		}
	}
}

func TestParsedRulesHaveSeparateTests(t *testing.T) {
	for _, r := range validRuleSets() {
		for i := range r.Rules {
			changed, _ := impl.ParseRules(rulesText(r))
			spoil(changed.Rules[i].Tests, below(-7, -7))
			changed.Rules[i] = r.Rules[i]
			if !areEqualRules(changed, r) {
				t.Errorf("with the tests of rule %d, %v became %v", i, r, changed)
			}
		}
	}
}
