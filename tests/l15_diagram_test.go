package tests

import (
	"math"
	"slices"
	"strconv"
	"strings"
	"testing"

	"loop.example/g01923/impl"
)

func nodeOf(feature, threshold, low, high int) impl.DiagramNode {
	return impl.DiagramNode{Feature: feature, Threshold: threshold, Low: low, High: high}
}

func diagramOf(root int, nodes ...impl.DiagramNode) impl.Diagram {
	return impl.Diagram{Root: root, Nodes: nodes}
}

// chainOf returns a valid diagram of n nodes, at most 1000, each of which tests for
// a smaller score than the one before it. Scores of at least n lead to true.
func chainOf(n int) impl.Diagram {
	d := diagramOf(n + 1)
	for i := range n {
		d.Nodes = append(d.Nodes, nodeOf(5, n-i, 0, i+1))
	}
	return d
}

// rulesOverAll returns all rules of one to three tests of the features.
func rulesOverAll(features []int, thresholds ...int) []impl.Rule {
	var rules []impl.Rule
	var extend func(tests []impl.Test, features []int)
	extend = func(tests []impl.Test, features []int) {
		if len(tests) > 0 {
			rules = append(rules, ruleOf(tests...))
		}
		if len(tests) == impl.MaxTests {
			return
		}
		for i, feature := range features {
			for _, threshold := range thresholds {
				extend(append(slices.Clone(tests), atLeast(feature, threshold)), features[i+1:])
				extend(append(slices.Clone(tests), below(feature, threshold)), features[i+1:])
			}
		}
	}
	extend(nil, features)
	return rules
}

// variablesInSteps is for valid rules.
func variablesInSteps(r impl.RuleSet) []impl.Test {
	var numbers []int
	for _, rule := range r.Rules {
		for _, test := range rule.Tests {
			numbers = append(numbers, test.Feature*10000+test.Threshold)
		}
	}
	slices.Sort(numbers)
	var variables []impl.Test
	for _, number := range slices.Compact(numbers) {
		variables = append(variables, atLeast(number/10000, number%10000))
	}
	return variables
}

// tableInSteps returns 1 or 0 for all values of the variables, in which those of the
// first variable change least often.
func tableInSteps(r impl.RuleSet, variables []impl.Test) string {
	table := make([]byte, 1<<len(variables))
	for row := range table {
		table[row] = '0'
		for _, rule := range r.Rules {
			if !slices.ContainsFunc(rule.Tests, func(test impl.Test) bool {
				place := slices.Index(variables, atLeast(test.Feature, test.Threshold))
				isHigh := row>>(len(variables)-1-place)&1 == 1
				return isHigh == test.Below
			}) {
				table[row] = '1'
			}
		}
	}
	return string(table)
}

// diagramInSteps is for valid rules. It knows a node by the table that the node
// decides, and not by its references.
func diagramInSteps(r impl.RuleSet) impl.Diagram {
	variables := variablesInSteps(r)
	d := impl.Diagram{}
	references := map[string]int{}
	var build func(table string, variables []impl.Test) int
	build = func(table string, variables []impl.Test) int {
		if !strings.Contains(table, "1") {
			return 0
		}
		if !strings.Contains(table, "0") {
			return 1
		}
		low, high := table[:len(table)/2], table[len(table)/2:]
		if low == high {
			return build(low, variables[1:])
		}
		if references[table] == 0 {
			node := nodeOf(variables[0].Feature, variables[0].Threshold, build(low, variables[1:]), build(high, variables[1:]))
			d.Nodes = append(d.Nodes, node)
			references[table] = len(d.Nodes) + 1
		}
		return references[table]
	}
	d.Root = build(tableInSteps(r, variables), variables)
	return d
}

func isVariableInSteps(node impl.DiagramNode) bool {
	return 0 <= node.Feature && node.Feature <= 5 && 1 <= node.Threshold && node.Threshold <= 1000
}

func isValidInSteps(d impl.Diagram) bool {
	if len(d.Nodes) > 200 || d.Root < 0 || d.Root >= len(d.Nodes)+2 {
		return false
	}
	seen := map[impl.DiagramNode]bool{}
	for i, node := range d.Nodes {
		if !isVariableInSteps(node) || seen[node] || node.Low == node.High {
			return false
		}
		seen[node] = true
		for _, reference := range []int{node.Low, node.High} {
			if reference < 0 || reference >= i+2 {
				return false
			}
			if reference < 2 {
				continue
			}
			next := d.Nodes[reference-2]
			if next.Feature*10000+next.Threshold <= node.Feature*10000+node.Threshold {
				return false
			}
		}
	}
	return true
}

// followInSteps is for valid diagrams and feature vectors. It returns the decision
// and the number of nodes from the reference on.
func followInSteps(nodes []impl.DiagramNode, reference int, f []int) (bool, int) {
	if reference < 2 {
		return reference == 1, 0
	}
	node := nodes[reference-2]
	next := node.Low
	if f[node.Feature] >= node.Threshold {
		next = node.High
	}
	holds, visited := followInSteps(nodes, next, f)
	return holds, visited + 1
}

// diagramText is for diagrams whose features exist.
func diagramText(d impl.Diagram) string {
	parts := []string{"root " + strconv.Itoa(d.Root)}
	for i, node := range d.Nodes {
		test := testedFeatures[node.Feature] + ">=" + strconv.Itoa(node.Threshold)
		parts = append(parts, strconv.Itoa(i+2)+": "+test+" "+strconv.Itoa(node.High)+" "+strconv.Itoa(node.Low))
	}
	return strings.Join(parts, "; ")
}

func areEqualDiagrams(a, b impl.Diagram) bool {
	return a.Root == b.Root && slices.Equal(a.Nodes, b.Nodes)
}

// beginningOfDiagram is for messages, which are not to hold lists of any length.
func beginningOfDiagram(d impl.Diagram) impl.Diagram {
	return impl.Diagram{Root: d.Root, Nodes: beginning(d.Nodes)}
}

// checkBuilt checks the diagram of valid rules and its variables, and returns it.
func checkBuilt(t *testing.T, r impl.RuleSet) impl.Diagram {
	t.Helper()
	variables, want := variablesInSteps(r), diagramInSteps(r)
	if got := impl.DiagramVariables(r); !slices.Equal(got, variables) {
		t.Errorf("DiagramVariables(%v) = %v, want %v", r, got, variables)
	}
	d, ok := impl.BuildDiagram(r)
	if !ok || !areEqualDiagrams(d, want) {
		t.Errorf("BuildDiagram(%v) = %v, %v, want %v", r, d, ok, want)
	}
	if !impl.IsValidDiagram(d) {
		t.Errorf("IsValidDiagram(%v) = false for the rules %v", d, r)
	}
	for i, node := range d.Nodes {
		if node.Low == node.High || slices.Contains(d.Nodes[:i], node) {
			t.Errorf("the diagram %v of %v has the node %v", d, r, node)
		}
		if !slices.Contains(variables, atLeast(node.Feature, node.Threshold)) {
			t.Errorf("the diagram %v of %v tests %v, which is none of %v", d, r, node, variables)
		}
	}
	return d
}

// checkDecides checks the promise for valid rules, and returns their diagram.
func checkDecides(t *testing.T, r impl.RuleSet, vectors [][]int) impl.Diagram {
	t.Helper()
	d := checkBuilt(t, r)
	most := len(impl.DiagramVariables(r))
	for _, f := range vectors {
		want := impl.RulesHold(r, f)
		if got := impl.EvaluateDiagram(d, f); got != want || got != (firstInSteps(r, f) >= 0) {
			t.Errorf("EvaluateDiagram(%v, %v) = %v for the rules %v", d, f, got, r)
		}
		if got := impl.TestsEvaluated(d, f); got < 0 || got > most {
			t.Errorf("TestsEvaluated(%v, %v) = %d for the rules %v", d, f, got, r)
		}
	}
	return d
}

func checkDecidesOfSets(t *testing.T, rules []impl.Rule, most int) {
	t.Helper()
	setsOf(rules, most, func(r impl.RuleSet) { checkDecides(t, r, vectorsBeside(r)) })
}

// The promise, for rules with and without Below, which have equal and different
// pairs of feature and threshold.
func TestDiagramsDecideAsTheRules(t *testing.T) {
	checkDecidesOfSets(t, rulesOver(0, 1, 1, 500), 2)
	checkDecidesOfSets(t, rulesOver(3, 5, 999, 1000), 2)
	checkDecidesOfSets(t, append(rulesOver(0, 5, 500),
		ruleOf(atLeast(0, 501)), ruleOf(below(0, 501)), ruleOf(atLeast(0, 300), below(5, 501)), ruleOf(below(0, 501), atLeast(5, 500))), 3)
	checkDecidesOfSets(t, rulesOverAll([]int{1, 2, 4}, 400), 2)
}

// The promise, for three rules of up to three tests of any features.
func TestDiagramsOfManyVariablesDecideAsTheRules(t *testing.T) {
	sets := []impl.RuleSet{
		rulesOf(ruleOf(atLeast(0, 800), atLeast(5, 400)), ruleOf(atLeast(0, 900))),
		rulesOf(ruleOf(atLeast(0, 1), atLeast(1, 1), atLeast(2, 1)), ruleOf(below(0, 1), below(1, 1), below(2, 1)), ruleOf(atLeast(3, 1), below(4, 1), atLeast(5, 1))),
		rulesOf(ruleOf(atLeast(0, 1), atLeast(3, 1000)), ruleOf(atLeast(1, 1), atLeast(4, 1000)), ruleOf(atLeast(2, 1), atLeast(5, 1000))),
		rulesOf(ruleOf(atLeast(0, 300), below(1, 700), atLeast(2, 500)), ruleOf(atLeast(0, 700), atLeast(1, 300), below(2, 500)), ruleOf(below(0, 500), atLeast(1, 500), atLeast(2, 501))),
		rulesOf(ruleOf(atLeast(3, 2), below(4, 3), atLeast(5, 4)), ruleOf(atLeast(3, 3), below(4, 4), atLeast(5, 2)), ruleOf(below(3, 4), atLeast(4, 2), below(5, 3))),
	}
	kinds := everyKindOfRule()
	for i, a := range kinds {
		b, c := kinds[(7*i+3)%len(kinds)], kinds[(11*i+100)%len(kinds)]
		sets = append(sets, rulesOf(a), rulesOf(b, a))
		if i%20 == 0 {
			sets = append(sets, rulesOf(c, a, b))
		}
	}
	sizes := map[int]int{}
	for _, r := range sets {
		d := checkDecides(t, r, vectorsBeside(r))
		sizes[len(d.Nodes)]++
	}
	for size := 1; size <= 7; size++ {
		if sizes[size] == 0 {
			t.Errorf("no diagram has %d nodes: %v", size, sizes)
		}
	}
}

func TestDiagramsHaveTheOrderOfTheRecursion(t *testing.T) {
	count := 0
	everyRuleSet(func(r impl.RuleSet) {
		count++
		if len(r.Rules) < 3 || count%10 == 0 {
			checkBuilt(t, r)
		}
	})
	setsOf(rulesOverAll([]int{0, 3, 5}, 500), 3, func(r impl.RuleSet) { checkBuilt(t, r) })
	setsOf(rulesOver(1, 2, 300, 600), 3, func(r impl.RuleSet) { checkBuilt(t, r) })
}

func TestBuildDiagramValues(t *testing.T) {
	for text, want := range map[string]string{
		"name>=800":                     "root 2; 2: name>=800 1 0",
		"name<800":                      "root 2; 2: name>=800 0 1",
		"phone>=1":                      "root 2; 2: phone>=1 1 0",
		"year<1000":                     "root 2; 2: year>=1000 0 1",
		"name>=800,phone>=400":          "root 3; 2: phone>=400 1 0; 3: name>=800 2 0",
		"name>=800 or phone>=400":       "root 3; 2: phone>=400 1 0; 3: name>=800 1 2",
		"phone>=400 or name>=800":       "root 3; 2: phone>=400 1 0; 3: name>=800 1 2",
		"name<800,phone>=400":           "root 3; 2: phone>=400 1 0; 3: name>=800 0 2",
		"name>=800,phone<400":           "root 3; 2: phone>=400 0 1; 3: name>=800 2 0",
		"name<800,phone<400":            "root 3; 2: phone>=400 0 1; 3: name>=800 0 2",
		"name<800 or phone<400":         "root 3; 2: phone>=400 0 1; 3: name>=800 2 1",
		"name>=800 or name>=800":        "root 2; 2: name>=800 1 0",
		"name>=800 or tokens>=800":      "root 3; 2: tokens>=800 1 0; 3: name>=800 1 2",
		"phone<500 or phone>=500":       "root 1",
		"sound>=7,city<8,year>=9":       "root 4; 2: year>=9 1 0; 3: city>=8 0 2; 4: sound>=7 3 0",
		"sound>=7 or city<8 or year>=9": "root 4; 2: year>=9 1 0; 3: city>=8 2 1; 4: sound>=7 1 3",
		// The example of the given test, in which a variable has two nodes.
		"name>=800,phone>=400 or name>=900": "root 5; 2: name>=900 1 0; 3: phone>=400 1 0; 4: name>=900 1 3; 5: name>=800 4 2",
		// Two rules with the same three variables share a node or not.
		"name>=1,city>=2 or tokens>=3,city>=2":         "root 4; 2: city>=2 1 0; 3: tokens>=3 2 0; 4: name>=1 2 3",
		"name>=1,city>=2 or tokens>=3,city<2":          "root 6; 2: city>=2 0 1; 3: tokens>=3 2 0; 4: city>=2 1 0; 5: tokens>=3 1 4; 6: name>=1 5 3",
		"name>=5,phone>=5 or name<5,phone<5":           "root 4; 2: phone>=5 0 1; 3: phone>=5 1 0; 4: name>=5 3 2",
		"name<5,phone>=5 or name>=5,phone<5":           "root 4; 2: phone>=5 1 0; 3: phone>=5 0 1; 4: name>=5 3 2",
		"name>=1 or tokens>=2,sound>=3 or city>=4":     "root 5; 2: city>=4 1 0; 3: sound>=3 1 2; 4: tokens>=2 3 2; 5: name>=1 1 4",
		"phone>=9 or year>=8,phone<9 or name>=1":       "root 4; 2: phone>=9 1 0; 3: year>=8 1 2; 4: name>=1 1 3",
		"name>=10,tokens>=20 or name>=20 or tokens<20": "root 4; 2: tokens>=20 0 1; 3: name>=20 1 2; 4: name>=10 1 3",
		"name>=300,phone>=1 or name>=600,phone>=1":     "root 4; 2: phone>=1 1 0; 3: name>=600 2 0; 4: name>=300 2 3",
		"name<600,phone>=1 or name>=300,phone>=1":      "root 4; 2: phone>=1 1 0; 3: name>=600 0 2; 4: name>=300 2 3",
		"name>=300,phone>=1 or name<600,phone<1":       "root 6; 2: phone>=1 0 1; 3: name>=600 0 2; 4: phone>=1 1 0; 5: name>=600 4 1; 6: name>=300 5 3",
	} {
		r, ok := impl.ParseRules(text)
		d, built := impl.BuildDiagram(r)
		if got := impl.FormatDiagram(d); !ok || !built || got != want || diagramText(d) != want {
			t.Errorf("the diagram of %q is %q, want %q", text, got, want)
		}
		checkDecides(t, r, vectorsBeside(r))
	}
}

// checkNeeded checks that the variables of valid rules are these ones, of which the
// nodes test only the needed ones, and each of those.
func checkNeeded(t *testing.T, r impl.RuleSet, needed, others []impl.Test) {
	t.Helper()
	variables := impl.DiagramVariables(r)
	if len(variables) != len(needed)+len(others) {
		t.Errorf("DiagramVariables(%v) = %v, want %v and %v", r, variables, needed, others)
	}
	d := checkDecides(t, r, vectorsBeside(r))
	for _, variable := range slices.Concat(needed, others) {
		if !slices.Contains(variables, variable) {
			t.Errorf("DiagramVariables(%v) = %v without %v", r, variables, variable)
		}
		isTested := slices.ContainsFunc(d.Nodes, func(node impl.DiagramNode) bool {
			return node.Feature == variable.Feature && node.Threshold == variable.Threshold
		})
		if isTested != slices.Contains(needed, variable) {
			t.Errorf("the diagram of %v is %v, which tests %v: %v", r, d, variable, isTested)
		}
	}
}

// The edge case: a test that is never needed.
func TestDiagramsWithoutTestsThatAreNotNeeded(t *testing.T) {
	name, sound, phone := atLeast(0, 800), atLeast(2, 300), atLeast(5, 400)
	noName, noSound, noPhone := below(0, 800), below(2, 300), below(5, 400)
	type tests = []impl.Test
	// One test and its opposite, in two rules that are equal but for them.
	checkNeeded(t, rulesOf(ruleOf(name, phone), ruleOf(noName, phone)), tests{phone}, tests{name})
	checkNeeded(t, rulesOf(ruleOf(noName, phone), ruleOf(name, phone)), tests{phone}, tests{name})
	checkNeeded(t, rulesOf(ruleOf(name, phone), ruleOf(name, noPhone)), tests{name}, tests{phone})
	checkNeeded(t, rulesOf(ruleOf(name, noSound, phone), ruleOf(name, sound, phone)), tests{name, phone}, tests{sound})
	checkNeeded(t, rulesOf(ruleOf(noName, sound), ruleOf(noPhone), ruleOf(name, sound)), tests{sound, phone}, tests{name})
	// A rule that a shorter rule makes superfluous.
	checkNeeded(t, rulesOf(ruleOf(name, phone), ruleOf(name)), tests{name}, tests{phone})
	checkNeeded(t, rulesOf(ruleOf(name), ruleOf(name, phone)), tests{name}, tests{phone})
	checkNeeded(t, rulesOf(ruleOf(name, noPhone), ruleOf(noPhone)), tests{phone}, tests{name})
	checkNeeded(t, rulesOf(ruleOf(noName, sound, phone), ruleOf(sound)), tests{sound}, tests{name, phone})
	checkNeeded(t, rulesOf(ruleOf(name, sound, phone), ruleOf(name, phone)), tests{name, phone}, tests{sound})
	checkNeeded(t, rulesOf(ruleOf(name, sound), ruleOf(name), ruleOf(name, phone)), tests{name}, tests{sound, phone})
	// One test and its opposite alone.
	checkNeeded(t, rulesOf(ruleOf(phone), ruleOf(noPhone)), nil, tests{phone})
	checkNeeded(t, rulesOf(ruleOf(name, sound), ruleOf(phone), ruleOf(noPhone)), nil, tests{name, sound, phone})
	checkNeeded(t, rulesOf(ruleOf(name), ruleOf(noName, sound), ruleOf(noSound)), nil, tests{name, sound})
	// All tests are needed.
	checkNeeded(t, rulesOf(ruleOf(name, phone), ruleOf(noName, noPhone)), tests{name, phone}, nil)
	checkNeeded(t, rulesOf(ruleOf(name, phone), ruleOf(noName, sound)), tests{name, sound, phone}, nil)
	// The opposite shortens a rule.
	checkNeeded(t, rulesOf(ruleOf(name), ruleOf(noName, phone)), tests{name, phone}, nil)
}

func TestDiagramsOfRulesThatAlwaysHold(t *testing.T) {
	for feature := range impl.FeatureCount {
		for _, threshold := range someThresholds {
			yes, no := ruleOf(atLeast(feature, threshold)), ruleOf(below(feature, threshold))
			other := ruleOf(below(1, 500), atLeast(3, 200))
			for _, r := range []impl.RuleSet{rulesOf(yes, no), rulesOf(no, yes), rulesOf(other, yes, no), rulesOf(yes, other, no), rulesOf(no, yes, other)} {
				d := checkBuilt(t, r)
				if got := impl.FormatDiagram(d); got != "root 1" || d.Root != 1 || len(d.Nodes) != 0 {
					t.Errorf("the diagram of %v is %v, %q", r, d, got)
				}
				for _, f := range vectorsBeside(r) {
					checkFollowed(t, d, f, true, 0)
				}
			}
		}
	}
	for _, r := range rulesThatAlwaysHold() {
		d := checkDecides(t, r, vectorsBeside(r))
		for _, f := range someVectors() {
			if !impl.EvaluateDiagram(d, f) {
				t.Errorf("EvaluateDiagram(%v, %v) = false for the rules %v", d, f, r)
			}
		}
	}
}

// A score of at least 600 is also at least 300, which a diagram does not know.
func TestDiagramVariablesAreIndependent(t *testing.T) {
	low, high := atLeast(0, 300), atLeast(0, 600)
	noLow, noHigh := below(0, 300), below(0, 600)
	for _, c := range []struct {
		rules impl.RuleSet
		want  impl.Diagram
	}{
		{rulesOf(ruleOf(low), ruleOf(high)), diagramOf(3, nodeOf(0, 600, 0, 1), nodeOf(0, 300, 2, 1))},
		{rulesOf(ruleOf(high), ruleOf(low)), diagramOf(3, nodeOf(0, 600, 0, 1), nodeOf(0, 300, 2, 1))},
		{rulesOf(ruleOf(low), ruleOf(noHigh)), diagramOf(3, nodeOf(0, 600, 1, 0), nodeOf(0, 300, 2, 1))},
		{rulesOf(ruleOf(noLow), ruleOf(high)), diagramOf(3, nodeOf(0, 600, 0, 1), nodeOf(0, 300, 1, 2))},
		{rulesOf(ruleOf(noLow), ruleOf(noHigh)), diagramOf(3, nodeOf(0, 600, 1, 0), nodeOf(0, 300, 1, 2))},
		{rulesOf(ruleOf(low), ruleOf(low)), diagramOf(2, nodeOf(0, 300, 0, 1))},
		{rulesOf(ruleOf(low), ruleOf(noLow), ruleOf(high)), diagramOf(1)},
	} {
		d, ok := impl.BuildDiagram(c.rules)
		if !ok || !areEqualDiagrams(d, c.want) {
			t.Errorf("BuildDiagram(%v) = %v, %v, want %v", c.rules, d, ok, c.want)
		}
		checkDecides(t, c.rules, vectorsBeside(c.rules))
	}
}

func checkVariables(t *testing.T, r impl.RuleSet, want ...impl.Test) {
	t.Helper()
	if got := impl.DiagramVariables(r); !slices.Equal(got, want) {
		t.Errorf("DiagramVariables(%v) = %v, want %v", beginningOfRules(r), got, want)
	}
}

func TestDiagramVariablesValues(t *testing.T) {
	checkVariables(t, rulesOf(ruleOf(atLeast(0, 800))), atLeast(0, 800))
	checkVariables(t, rulesOf(ruleOf(below(0, 800))), atLeast(0, 800))
	checkVariables(t, rulesOf(ruleOf(below(5, 1)), ruleOf(atLeast(5, 1))), atLeast(5, 1))
	checkVariables(t, rulesOf(ruleOf(atLeast(5, 1)), ruleOf(below(5, 1)), ruleOf(atLeast(5, 1))), atLeast(5, 1))
	checkVariables(t, rulesOf(ruleOf(atLeast(0, 900)), ruleOf(atLeast(0, 100))), atLeast(0, 100), atLeast(0, 900))
	checkVariables(t, rulesOf(ruleOf(atLeast(0, 800), atLeast(5, 400)), ruleOf(atLeast(0, 900))), atLeast(0, 800), atLeast(0, 900), atLeast(5, 400))
	// The feature counts before the threshold.
	checkVariables(t, rulesOf(ruleOf(atLeast(1, 1)), ruleOf(atLeast(0, 1000))), atLeast(0, 1000), atLeast(1, 1))
	checkVariables(t, rulesOf(ruleOf(below(0, 9), below(1, 10))), atLeast(0, 9), atLeast(1, 10))
	checkVariables(t, rulesOf(ruleOf(atLeast(4, 10)), ruleOf(atLeast(4, 9)), ruleOf(atLeast(4, 1000))), atLeast(4, 9), atLeast(4, 10), atLeast(4, 1000))
	// Equal pairs between others, with and without Below.
	checkVariables(t, rulesOf(ruleOf(atLeast(0, 5), below(2, 5)), ruleOf(below(0, 4), atLeast(2, 5)), ruleOf(atLeast(0, 5), atLeast(2, 6))),
		atLeast(0, 4), atLeast(0, 5), atLeast(2, 5), atLeast(2, 6))
	checkVariables(t, rulesOf(ruleOf(below(3, 3), below(4, 2), below(5, 1)), ruleOf(atLeast(3, 2), atLeast(4, 1), atLeast(5, 3)), ruleOf(below(3, 1), below(4, 3), below(5, 2))),
		atLeast(3, 1), atLeast(3, 2), atLeast(3, 3), atLeast(4, 1), atLeast(4, 2), atLeast(4, 3), atLeast(5, 1), atLeast(5, 2), atLeast(5, 3))
}

func TestDiagramVariablesFollowTheDefinition(t *testing.T) {
	setsOf(rulesOver(0, 5, 1, 1000), 2, func(r impl.RuleSet) { checkVariables(t, r, variablesInSteps(r)...) })
	for _, r := range validRuleSets() {
		variables := impl.DiagramVariables(r)
		for i, variable := range variables {
			if i > 0 && variables[i-1].Feature*10000+variables[i-1].Threshold >= variable.Feature*10000+variable.Threshold {
				t.Errorf("DiagramVariables(%v) = %v", r, variables)
			}
			isTested := false
			for _, rule := range r.Rules {
				for _, isBelow := range []bool{false, true} {
					test := impl.Test{Feature: variable.Feature, Threshold: variable.Threshold, Below: isBelow}
					isTested = isTested || slices.Contains(rule.Tests, test)
				}
			}
			if variable.Below || !isTested {
				t.Errorf("DiagramVariables(%v) has %v", r, variable)
			}
		}
		for _, rule := range r.Rules {
			for _, test := range rule.Tests {
				if !slices.Contains(variables, atLeast(test.Feature, test.Threshold)) {
					t.Errorf("DiagramVariables(%v) = %v without %v", r, variables, test)
				}
			}
		}
	}
}

func TestDiagramsOfRulesThatAreNotValid(t *testing.T) {
	for _, r := range badRuleSets() {
		checkVariables(t, r)
		if d, ok := impl.BuildDiagram(r); ok || d.Root != 0 || len(d.Nodes) != 0 {
			t.Errorf("BuildDiagram(%v) = %v, %v", beginningOfRules(r), beginningOfDiagram(d), ok)
		}
	}
}

func checkValidDiagram(t *testing.T, d impl.Diagram, want bool) {
	t.Helper()
	if got := impl.IsValidDiagram(d); got != want {
		t.Errorf("IsValidDiagram of %d nodes, %v, = %v", len(d.Nodes), beginningOfDiagram(d), got)
	}
}

func TestIsValidDiagramOfCounts(t *testing.T) {
	for n := range 1001 {
		d := chainOf(n)
		checkValidDiagram(t, d, n <= 200)
		d.Root = 0
		checkValidDiagram(t, d, n <= 200)
	}
	checkValidDiagram(t, impl.Diagram{}, true)
	checkValidDiagram(t, impl.Diagram{Root: 1, Nodes: []impl.DiagramNode{}}, true)
	checkValidDiagram(t, impl.Diagram{Nodes: make([]impl.DiagramNode, 0, 3)}, true)
	checkValidDiagram(t, diagramOf(0, make([]impl.DiagramNode, 1)...), false)
	checkValidDiagram(t, diagramOf(0, make([]impl.DiagramNode, 100000)...), false)
	checkValidDiagram(t, diagramOf(2, slices.Repeat([]impl.DiagramNode{nodeOf(0, 500, 0, 1)}, 100000)...), false)
}

func TestIsValidDiagramOfFeatures(t *testing.T) {
	for feature := -3; feature <= 9; feature++ {
		valid := 0 <= feature && feature <= 5
		checkValidDiagram(t, diagramOf(2, nodeOf(feature, 500, 0, 1)), valid)
		checkValidDiagram(t, diagramOf(3, nodeOf(5, 1000, 0, 1), nodeOf(feature, 500, 0, 2)), valid)
		checkValidDiagram(t, diagramOf(3, nodeOf(0, 500, 0, 1), nodeOf(feature, 501, 0, 1)), valid)
	}
	for _, feature := range featuresOutOfRange {
		checkValidDiagram(t, diagramOf(2, nodeOf(feature, 500, 0, 1)), false)
		checkValidDiagram(t, diagramOf(0, nodeOf(feature, 500, 0, 1)), false)
		checkValidDiagram(t, diagramOf(3, nodeOf(feature, 500, 0, 1), nodeOf(0, 400, 0, 1)), false)
		checkValidDiagram(t, diagramOf(3, nodeOf(feature, 500, 0, 1), nodeOf(0, 400, 2, 1)), false)
	}
}

func TestIsValidDiagramOfThresholds(t *testing.T) {
	for feature := range impl.FeatureCount {
		for threshold := -1100; threshold <= 1100; threshold++ {
			valid := 1 <= threshold && threshold <= 1000
			checkValidDiagram(t, diagramOf(2, nodeOf(feature, threshold, 0, 1)), valid)
			checkValidDiagram(t, diagramOf(1, nodeOf(feature, threshold, 1, 0)), valid)
			checkValidDiagram(t, diagramOf(3, nodeOf(5, 1000, 1, 0), nodeOf(feature, threshold, 2, 0)), valid && (feature < 5 || threshold < 1000))
		}
		for _, threshold := range thresholdsOutOfRange {
			checkValidDiagram(t, diagramOf(2, nodeOf(feature, threshold, 0, 1)), false)
			checkValidDiagram(t, diagramOf(3, nodeOf(5, 1000, 0, 1), nodeOf(feature, threshold, 2, 1)), false)
			checkValidDiagram(t, diagramOf(3, nodeOf(feature, threshold, 0, 1), nodeOf(0, 1, 0, 1)), false)
		}
	}
}

// referencesOutOfRange belong to no node of a diagram of at most four nodes.
var referencesOutOfRange = []int{math.MinInt, math.MinInt + 1, math.MinInt + 2, -1000, -2, -1, 6, 7, 100, 1 << 32, math.MaxInt - 2, math.MaxInt - 1, math.MaxInt}

// Each node of a chain may refer to the decisions and to the nodes before it.
func TestIsValidDiagramOfReferences(t *testing.T) {
	for place := range 4 {
		check := func(low, high int) {
			d := chainOf(4)
			d.Nodes[place].Low, d.Nodes[place].High = low, high
			valid := low != high && 0 <= min(low, high) && max(low, high) < place+2
			for _, root := range []int{0, 1, place + 2, 5} {
				d.Root = root
				checkValidDiagram(t, d, valid)
			}
		}
		for low := -2; low <= 8; low++ {
			for high := -2; high <= 8; high++ {
				// A later node refers to this one, but is not equal to it.
				check(low, high)
			}
		}
		for _, reference := range referencesOutOfRange {
			for other := range place + 2 {
				check(reference, other)
				check(other, reference)
			}
			check(reference, reference)
			check(reference, -reference)
		}
	}
}

func TestIsValidDiagramOfRoots(t *testing.T) {
	for n := range 201 {
		d := chainOf(n)
		for _, root := range []int{-1, 0, 1, 2, n - 1, n, n + 1, n + 2, n + 3, 2 * n, 202, 203} {
			d.Root = root
			checkValidDiagram(t, d, 0 <= root && root <= n+1)
		}
		for _, root := range []int{math.MinInt, math.MinInt + 1, math.MinInt + 2, -1000, -2, 1 << 32, math.MaxInt - 1, math.MaxInt} {
			d.Root = root
			checkValidDiagram(t, d, false)
		}
	}
	for _, root := range referencesOutOfRange {
		for n := range 5 {
			d := chainOf(n)
			d.Root = root
			checkValidDiagram(t, d, false)
		}
	}
}

func TestIsValidDiagramOfEqualNodes(t *testing.T) {
	a, b := nodeOf(3, 500, 0, 1), nodeOf(3, 500, 1, 0)
	checkValidDiagram(t, diagramOf(2, a, a), false)
	checkValidDiagram(t, diagramOf(3, a, a), false)
	checkValidDiagram(t, diagramOf(3, a, b), true)
	checkValidDiagram(t, diagramOf(3, a, b, a), false)
	checkValidDiagram(t, diagramOf(3, a, b, nodeOf(0, 1, 2, 3), b), false)
	checkValidDiagram(t, diagramOf(4, a, b, nodeOf(0, 1, 2, 3), nodeOf(0, 1, 2, 3)), false)
	// Nodes that differ in one field.
	for _, other := range []impl.DiagramNode{nodeOf(2, 500, 0, 1), nodeOf(4, 500, 0, 1), nodeOf(3, 499, 0, 1), nodeOf(3, 501, 0, 1)} {
		checkValidDiagram(t, diagramOf(3, a, other), true)
	}
	checkValidDiagram(t, diagramOf(3, a, nodeOf(0, 1, 0, 2), nodeOf(0, 1, 1, 2)), true)
	checkValidDiagram(t, diagramOf(3, a, nodeOf(0, 1, 2, 0), nodeOf(0, 1, 2, 1)), true)
	// The same node twice, at all places of a long diagram.
	for _, n := range []int{2, 3, 10, 199} {
		for place := range n {
			d := chainOf(n)
			d.Nodes = append(d.Nodes, d.Nodes[place])
			checkValidDiagram(t, d, false)
			d.Nodes[n].Low, d.Nodes[n].High = d.Nodes[n].High, d.Nodes[n].Low
			checkValidDiagram(t, d, true)
		}
	}
}

// The nodes to which a node refers have a later variable.
func TestIsValidDiagramOfTheOrderOfVariables(t *testing.T) {
	for feature := range impl.FeatureCount {
		for next := range impl.FeatureCount {
			for _, threshold := range []int{1, 2, 499, 500, 501, 999, 1000} {
				valid := feature < next || feature == next && threshold < 500
				for decision := range 2 {
					last := nodeOf(next, 500, 1, 0)
					checkValidDiagram(t, diagramOf(3, last, nodeOf(feature, threshold, 2, decision)), valid)
					checkValidDiagram(t, diagramOf(3, last, nodeOf(feature, threshold, decision, 2)), valid)
					checkValidDiagram(t, diagramOf(1, last, nodeOf(feature, threshold, decision, 2)), valid)
				}
				early := []impl.DiagramNode{nodeOf(next, 500, 1, 0), nodeOf(5, 1000, 0, 1)}
				isLater := valid && (feature < 5 || threshold < 1000)
				checkValidDiagram(t, diagramOf(4, append(early, nodeOf(feature, threshold, 2, 3))...), isLater)
				checkValidDiagram(t, diagramOf(4, append(early, nodeOf(feature, threshold, 3, 2))...), isLater)
			}
		}
	}
	// A node may have any variable if no node refers to it.
	checkValidDiagram(t, diagramOf(3, nodeOf(0, 1, 0, 1), nodeOf(5, 1000, 0, 1)), true)
	checkValidDiagram(t, diagramOf(3, nodeOf(0, 1, 0, 1), nodeOf(5, 1000, 0, 2)), false)
}

// everySmallDiagram calls visit with many diagrams of up to three nodes, valid or not.
func everySmallDiagram(visit func(impl.Diagram)) {
	nodesOver := func(features, thresholds []int, least, most int) []impl.DiagramNode {
		var nodes []impl.DiagramNode
		for _, feature := range features {
			for _, threshold := range thresholds {
				for low := least; low <= most; low++ {
					for high := least; high <= most; high++ {
						nodes = append(nodes, nodeOf(feature, threshold, low, high))
					}
				}
			}
		}
		return nodes
	}
	for root := -1; root <= 3; root++ {
		visit(diagramOf(root))
	}
	all := nodesOver([]int{-1, 0, 5, 6}, []int{0, 1, 1000, 1001}, -1, 4)
	for _, a := range all {
		for root := -1; root <= 4; root++ {
			visit(diagramOf(root, a))
		}
		for _, b := range nodesOver([]int{0, 5}, []int{1, 1000}, -1, 4) {
			visit(diagramOf(3, a, b))
			visit(diagramOf(4, a, b))
			visit(diagramOf(2, b, a))
		}
	}
	for _, a := range nodesOver([]int{1, 2}, []int{500, 501}, 0, 1) {
		for _, b := range nodesOver([]int{1, 2}, []int{500, 501}, 0, 3) {
			for _, c := range nodesOver([]int{1, 2}, []int{500, 501}, 0, 4) {
				visit(diagramOf(4, a, b, c))
			}
		}
	}
}

func TestIsValidDiagramFollowsTheDefinition(t *testing.T) {
	counts := map[bool]int{}
	everySmallDiagram(func(d impl.Diagram) {
		want := isValidInSteps(d)
		checkValidDiagram(t, d, want)
		counts[want]++
	})
	if counts[true] < 1000 || counts[false] < 1000 {
		t.Errorf("%d diagrams are valid, %d are not", counts[true], counts[false])
	}
}

func checkFollowed(t *testing.T, d impl.Diagram, f []int, want bool, wantVisited int) {
	t.Helper()
	if got := impl.EvaluateDiagram(d, f); got != want {
		t.Errorf("EvaluateDiagram(%v, %v) = %v", beginningOfDiagram(d), beginning(f), got)
	}
	if got := impl.TestsEvaluated(d, f); got != wantVisited {
		t.Errorf("TestsEvaluated(%v, %v) = %d, want %d", beginningOfDiagram(d), beginning(f), got, wantVisited)
	}
}

func TestEvaluateDiagramAtTheThreshold(t *testing.T) {
	for feature := range impl.FeatureCount {
		for _, others := range []int{0, 500, 1000} {
			for threshold := 1; threshold <= 1000; threshold++ {
				f := slices.Repeat([]int{others}, impl.FeatureCount)
				for score := max(0, threshold-2); score <= min(1000, threshold+2); score++ {
					f[feature] = score
					checkFollowed(t, diagramOf(2, nodeOf(feature, threshold, 0, 1)), f, score >= threshold, 1)
					checkFollowed(t, diagramOf(2, nodeOf(feature, threshold, 1, 0)), f, score < threshold, 1)
				}
			}
		}
	}
}

func TestEvaluateDiagramWithoutNodesOnTheWay(t *testing.T) {
	for _, f := range someVectors() {
		for n := range 4 {
			d := chainOf(n)
			d.Root = 0
			checkFollowed(t, d, f, false, 0)
			d.Root = 1
			checkFollowed(t, d, f, true, 0)
		}
		checkFollowed(t, impl.Diagram{}, f, false, 0)
	}
}

func TestEvaluateDiagramValues(t *testing.T) {
	// name>=800,phone>=400 or name>=900
	d := diagramOf(5, nodeOf(0, 900, 0, 1), nodeOf(5, 400, 0, 1), nodeOf(0, 900, 3, 1), nodeOf(0, 800, 2, 4))
	checkFollowed(t, d, []int{850, 0, 0, 0, 0, 400}, true, 3)
	checkFollowed(t, d, []int{850, 0, 0, 0, 0, 399}, false, 3)
	checkFollowed(t, d, []int{800, 0, 0, 0, 0, 1000}, true, 3)
	checkFollowed(t, d, []int{899, 0, 0, 0, 0, 400}, true, 3)
	checkFollowed(t, d, []int{900, 0, 0, 0, 0, 0}, true, 2)
	checkFollowed(t, d, []int{799, 0, 0, 0, 0, 1000}, false, 2)
	checkFollowed(t, d, vectorWith(), false, 2)
	checkFollowed(t, d, slices.Repeat([]int{1000}, 6), true, 2)
	// The other nodes may be the root, too.
	for _, c := range []struct {
		root, name, phone int
		want              bool
		visited           int
	}{
		{2, 899, 1000, false, 1}, {2, 900, 0, true, 1}, {3, 1000, 399, false, 1}, {3, 0, 400, true, 1},
		{4, 900, 0, true, 1}, {4, 0, 400, true, 2}, {4, 899, 399, false, 2}, {0, 1000, 1000, false, 0}, {1, 0, 0, true, 0},
	} {
		d.Root = c.root
		checkFollowed(t, d, vectorWith(0, c.name, 5, c.phone), c.want, c.visited)
	}
}

func TestEvaluateDiagramOfChains(t *testing.T) {
	for _, n := range []int{1, 2, 3, 100, 199, 200} {
		d := chainOf(n)
		for score := range n + 3 {
			checkFollowed(t, d, vectorWith(5, score), score >= n, min(n, score+1))
		}
	}
	for _, n := range []int{201, 202, 1000} {
		for _, f := range [][]int{vectorWith(), vectorWith(5, 1), vectorWith(5, n), slices.Repeat([]int{1000}, 6)} {
			checkFollowed(t, chainOf(n), f, false, 0)
		}
	}
}

func TestEvaluateDiagramFollowsTheDefinition(t *testing.T) {
	var vectors [][]int
	everyVector([][]int{{0, 1, 999, 1000}, {499, 500, 501}, {499, 500, 501}, {0}, {1000}, {0, 1, 999, 1000}}, func(f []int) { vectors = append(vectors, f) })
	count := 0
	everySmallDiagram(func(d impl.Diagram) {
		valid := isValidInSteps(d)
		count++
		if !valid && count%50 > 0 {
			return
		}
		for i := count % 5; i < len(vectors); i += 5 {
			f := vectors[i]
			if !valid {
				checkFollowed(t, d, f, false, 0)
				continue
			}
			holds, visited := followInSteps(d.Nodes, d.Root, f)
			checkFollowed(t, d, f, holds, visited)
		}
	})
	for _, r := range validRuleSets() {
		d, _ := impl.BuildDiagram(r)
		for _, f := range someVectors() {
			holds, visited := followInSteps(d.Nodes, d.Root, f)
			checkFollowed(t, d, f, holds, visited)
		}
	}
}

// badDiagrams are not valid, for different reasons. Most of them lead to true for the
// vector of greatest scores.
func badDiagrams() []impl.Diagram {
	node, end := nodeOf(0, 500, 0, 1), nodeOf(5, 1000, 0, 1)
	bad := []impl.Diagram{
		chainOf(201), chainOf(1000), diagramOf(1, chainOf(201).Nodes...), diagramOf(2, slices.Repeat([]impl.DiagramNode{node}, 100000)...),
		diagramOf(3), diagramOf(2), diagramOf(3, node), diagramOf(2, node, node), diagramOf(3, node, node), diagramOf(1, node, end, node),
		diagramOf(1, impl.DiagramNode{}), diagramOf(2, node, impl.DiagramNode{}),
		// Equal references.
		diagramOf(2, nodeOf(0, 500, 1, 1)), diagramOf(2, nodeOf(0, 500, 0, 0)), diagramOf(3, end, nodeOf(0, 500, 2, 2)), diagramOf(2, end, nodeOf(0, 500, 1, 1)),
		// References to the node itself and to later ones.
		diagramOf(2, nodeOf(0, 500, 2, 1)), diagramOf(2, nodeOf(0, 500, 1, 2)), diagramOf(2, nodeOf(0, 500, 0, 3), end), diagramOf(2, nodeOf(0, 500, 3, 1), end),
		diagramOf(2, nodeOf(0, 500, 0, 3), nodeOf(5, 500, 1, 2)), diagramOf(3, end, nodeOf(0, 500, 3, 2)), diagramOf(3, end, nodeOf(0, 500, 2, 3)),
		// Variables that are equal or descend.
		diagramOf(3, node, nodeOf(5, 500, 0, 2)), diagramOf(3, node, nodeOf(0, 500, 0, 2)), diagramOf(3, node, nodeOf(0, 501, 0, 2)),
		diagramOf(3, node, nodeOf(5, 500, 2, 1)), diagramOf(3, node, nodeOf(0, 500, 2, 1)), diagramOf(3, node, nodeOf(1, 1, 2, 1)), diagramOf(1, node, nodeOf(1, 1, 2, 1)),
	}
	for _, reference := range append(referencesOutOfRange, 4, 5) {
		bad = append(bad, diagramOf(reference, node, end),
			diagramOf(2, nodeOf(0, 500, reference, 1)), diagramOf(2, nodeOf(0, 500, 1, reference)), diagramOf(2, nodeOf(0, 500, reference, 2)),
			diagramOf(3, end, nodeOf(0, 500, reference, 2)), diagramOf(3, end, nodeOf(0, 500, 2, reference)),
			diagramOf(2, end, nodeOf(0, 500, reference, 1)), diagramOf(1, end, nodeOf(0, 500, 0, reference)))
	}
	for _, feature := range featuresOutOfRange {
		bad = append(bad, diagramOf(2, nodeOf(feature, 500, 0, 1)), diagramOf(3, nodeOf(feature, 500, 0, 1), node),
			diagramOf(3, end, nodeOf(feature, 500, 0, 2)), diagramOf(2, end, nodeOf(feature, 500, 0, 1)), diagramOf(1, nodeOf(feature, 500, 1, 0)))
	}
	for _, threshold := range thresholdsOutOfRange {
		bad = append(bad, diagramOf(2, nodeOf(0, threshold, 0, 1)), diagramOf(3, nodeOf(5, threshold, 0, 1), node),
			diagramOf(3, end, nodeOf(4, threshold, 0, 2)), diagramOf(2, end, nodeOf(5, threshold, 1, 0)), diagramOf(1, nodeOf(0, threshold, 0, 1)))
	}
	return bad
}

func TestBadDiagrams(t *testing.T) {
	vectors := slices.Concat([][]int{vectorWith(), slices.Repeat([]int{1000}, 6), slices.Repeat([]int{500}, 6), vectorWith(0, 500), vectorWith(5, 1000)}, badVectors()[:20])
	for _, d := range badDiagrams() {
		checkValidDiagram(t, d, false)
		for _, f := range vectors {
			checkFollowed(t, d, f, false, 0)
		}
		if got := impl.FormatDiagram(d); got != "" {
			t.Errorf("FormatDiagram(%v) = %q", beginningOfDiagram(d), got)
		}
	}
}

func TestEvaluateDiagramOfListsThatAreNoVectors(t *testing.T) {
	diagrams := []impl.Diagram{{}, diagramOf(1), chainOf(3), chainOf(200), diagramOf(1, chainOf(2).Nodes...)}
	for feature := range impl.FeatureCount {
		diagrams = append(diagrams, diagramOf(2, nodeOf(feature, 1, 0, 1)), diagramOf(2, nodeOf(feature, 1000, 1, 0)),
			diagramOf(3, nodeOf(5, 1000, 0, 1), nodeOf(feature, 500, 1, 2)))
	}
	for _, f := range badVectors() {
		for _, d := range diagrams {
			checkFollowed(t, d, f, false, 0)
		}
	}
}

// checkEqualDiagrams checks EqualDiagrams in both orders.
func checkEqualDiagrams(t *testing.T, a, b impl.Diagram, want bool) {
	t.Helper()
	if impl.EqualDiagrams(a, b) != want || impl.EqualDiagrams(b, a) != want {
		t.Errorf("EqualDiagrams(%v, %v) is not %v in both orders", beginningOfDiagram(a), beginningOfDiagram(b), want)
	}
}

func copyOfDiagram(d impl.Diagram) impl.Diagram {
	return impl.Diagram{Root: d.Root, Nodes: slices.Clone(d.Nodes)}
}

// changedDiagrams returns diagrams that differ in one number, in the order of the
// nodes or in their number.
func changedDiagrams(d impl.Diagram) []impl.Diagram {
	var changed []impl.Diagram
	add := func(change func(*impl.Diagram)) {
		other := copyOfDiagram(d)
		change(&other)
		changed = append(changed, other)
	}
	add(func(d *impl.Diagram) { d.Root++ })
	add(func(d *impl.Diagram) { d.Root ^= math.MinInt })
	add(func(d *impl.Diagram) { d.Nodes = append(d.Nodes, nodeOf(0, 1, 0, 1)) })
	add(func(d *impl.Diagram) { d.Nodes = append(d.Nodes, impl.DiagramNode{}) })
	add(func(d *impl.Diagram) { d.Nodes = slices.Insert(d.Nodes, 0, impl.DiagramNode{Feature: -1}) })
	for i := range d.Nodes {
		add(func(d *impl.Diagram) { d.Nodes[i].Feature ^= 1 })
		add(func(d *impl.Diagram) { d.Nodes[i].Threshold++ })
		add(func(d *impl.Diagram) { d.Nodes[i].Low-- })
		add(func(d *impl.Diagram) { d.Nodes[i].High ^= math.MinInt })
		add(func(d *impl.Diagram) { d.Nodes = d.Nodes[:i] })
		for j := range i {
			if d.Nodes[i] != d.Nodes[j] {
				add(func(d *impl.Diagram) { d.Nodes[i], d.Nodes[j] = d.Nodes[j], d.Nodes[i] })
			}
		}
	}
	return changed
}

func TestEqualDiagrams(t *testing.T) {
	diagrams := []impl.Diagram{
		{}, diagramOf(1), diagramOf(-1), diagramOf(math.MinInt), diagramOf(math.MaxInt), chainOf(1), chainOf(2), chainOf(20),
		diagramOf(2, impl.DiagramNode{}), diagramOf(-7, make([]impl.DiagramNode, 3)...),
		diagramOf(5, nodeOf(0, 900, 0, 1), nodeOf(5, 400, 0, 1), nodeOf(0, 900, 3, 1), nodeOf(0, 800, 2, 4)),
		diagramOf(3, nodeOf(-1, 1001, 9, 9), nodeOf(math.MinInt, math.MaxInt, math.MaxInt, math.MinInt), nodeOf(-1, 1001, 9, 9)),
	}
	for i, d := range diagrams {
		checkEqualDiagrams(t, d, d, true)
		checkEqualDiagrams(t, d, copyOfDiagram(d), true)
		for _, other := range changedDiagrams(d) {
			checkEqualDiagrams(t, d, other, false)
		}
		for _, other := range diagrams[:i] {
			checkEqualDiagrams(t, d, other, false)
		}
	}
	for _, d := range badDiagrams() {
		checkEqualDiagrams(t, d, copyOfDiagram(d), true)
		checkEqualDiagrams(t, d, diagramOf(d.Root-1, d.Nodes...), false)
	}
	for _, root := range []int{math.MinInt, -1, 0, 1, 2, math.MaxInt} {
		checkEqualDiagrams(t, impl.Diagram{Root: root}, impl.Diagram{Root: root, Nodes: []impl.DiagramNode{}}, true)
		checkEqualDiagrams(t, impl.Diagram{Root: root}, impl.Diagram{Root: root, Nodes: make([]impl.DiagramNode, 0, 5)}, true)
		checkEqualDiagrams(t, impl.Diagram{Root: root}, impl.Diagram{Root: root + 1, Nodes: []impl.DiagramNode{}}, false)
	}
	// The last of many nodes differs.
	long := chainOf(1000)
	other := copyOfDiagram(long)
	other.Nodes[999].Low++
	checkEqualDiagrams(t, long, other, false)
	checkEqualDiagrams(t, diagramOf(1001, long.Nodes[:999]...), long, false)
}

func TestFormatDiagramValues(t *testing.T) {
	for text, d := range map[string]impl.Diagram{
		"root 0":                                   {},
		"root 1":                                   diagramOf(1),
		"root 2; 2: name>=800 1 0":                 diagramOf(2, nodeOf(0, 800, 0, 1)),
		"root 2; 2: name>=800 0 1":                 diagramOf(2, nodeOf(0, 800, 1, 0)),
		"root 0; 2: tokens>=1 1 0":                 diagramOf(0, nodeOf(1, 1, 0, 1)),
		"root 1; 2: sound>=1000 0 1":               diagramOf(1, nodeOf(2, 1000, 1, 0)),
		"root 3; 2: year>=99 1 0; 3: city>=10 2 1": diagramOf(3, nodeOf(4, 99, 0, 1), nodeOf(3, 10, 1, 2)),
		"root 2; 2: year>=99 1 0; 3: city>=10 0 2": diagramOf(2, nodeOf(4, 99, 0, 1), nodeOf(3, 10, 2, 0)),
		"root 5; 2: name>=900 1 0; 3: phone>=400 1 0; 4: name>=900 1 3; 5: name>=800 4 2": diagramOf(5,
			nodeOf(0, 900, 0, 1), nodeOf(5, 400, 0, 1), nodeOf(0, 900, 3, 1), nodeOf(0, 800, 2, 4)),
	} {
		if got := impl.FormatDiagram(d); got != text {
			t.Errorf("FormatDiagram(%v) = %q, want %q", d, got, text)
		}
	}
}

func TestFormatDiagramFollowsTheDefinition(t *testing.T) {
	check := func(d impl.Diagram) {
		if got, want := impl.FormatDiagram(d), diagramText(d); got != want {
			t.Errorf("FormatDiagram(%v) = %q, want %q", beginningOfDiagram(d), got, want)
		}
	}
	for feature := range impl.FeatureCount {
		for threshold := 1; threshold <= 1000; threshold++ {
			check(diagramOf(2, nodeOf(feature, threshold, threshold%2, 1-threshold%2)))
		}
	}
	for n := 1; n <= 200; n++ {
		check(chainOf(n))
	}
	for _, r := range validRuleSets() {
		d, _ := impl.BuildDiagram(r)
		check(d)
	}
	count := 0
	everySmallDiagram(func(d impl.Diagram) {
		count++
		if isValidInSteps(d) {
			check(d)
		} else if count%50 == 0 && impl.FormatDiagram(d) != "" {
			t.Errorf("FormatDiagram(%v) = %q", d, impl.FormatDiagram(d))
		}
	})
}

var spoiledNode = nodeOf(-7, -7, -7, -7)

// roomyDiagram returns a copy of the diagram with unused capacity, and all of the
// memory of its nodes.
func roomyDiagram(d impl.Diagram) (impl.Diagram, []impl.DiagramNode) {
	nodes, all := withSpareOf(d.Nodes, nodeOf(0, 77, 0, 1))
	return impl.Diagram{Root: d.Root, Nodes: nodes}, all
}

func TestDiagramArgumentsAreUnchanged(t *testing.T) {
	diagrams := slices.Concat(badDiagrams(), []impl.Diagram{{}, diagramOf(1), chainOf(1), chainOf(200), chainOf(7)})
	for _, r := range validRuleSets() {
		d, _ := impl.BuildDiagram(r)
		diagrams = append(diagrams, d)
	}
	vectors := slices.Concat(someVectors(), badVectors())
	for i, original := range diagrams {
		a, allOfA := roomyDiagram(original)
		b, allOfB := roomyDiagram(diagrams[(i*7+3)%len(diagrams)])
		f, allOfF := withSpareOf(vectors[i%len(vectors)], 77)
		wantA, wantB, wantF := slices.Clone(allOfA), slices.Clone(allOfB), slices.Clone(allOfF)
		impl.IsValidDiagram(a)
		impl.EvaluateDiagram(a, f)
		impl.TestsEvaluated(a, f)
		impl.EqualDiagrams(a, b)
		impl.EqualDiagrams(a, original)
		impl.FormatDiagram(a)
		if !slices.Equal(allOfA, wantA) || !slices.Equal(allOfB, wantB) {
			t.Errorf("the nodes %v or %v became %v or %v", beginning(wantA), beginning(wantB), beginning(allOfA), beginning(allOfB))
		}
		if !slices.Equal(allOfF, wantF) {
			t.Errorf("the vector %v became %v", beginning(wantF), beginning(allOfF))
		}
	}
}

// callDiagramFunctions builds from the rules and changes the results, which shows in
// the arguments if they share memory.
func callDiagramFunctions(r impl.RuleSet) {
	d, _ := impl.BuildDiagram(r)
	spoil(d.Nodes, spoiledNode)
	spoil(impl.DiagramVariables(r), below(-7, -7))
}

func TestRulesOfDiagramsAreUnchanged(t *testing.T) {
	for _, original := range slices.Concat(validRuleSets(), badRuleSets()) {
		r := roomyRules(original)
		want := wholeRules(r)
		callDiagramFunctions(r)
		if !areEqualRules(wholeRules(r), want) {
			t.Errorf("the rules %v became %v", beginningOfRules(want), beginningOfRules(wholeRules(r)))
		}
	}
}

func TestDiagramResultsShareNoMemory(t *testing.T) {
	for _, r := range validRuleSets() {
		variables := impl.DiagramVariables(r)
		d, _ := impl.BuildDiagram(r)
		callDiagramFunctions(r)
		if !slices.Equal(variables, variablesInSteps(r)) {
			t.Errorf("the variables of %v became %v with those of another call", r, variables)
		}
		if want := diagramInSteps(r); !areEqualDiagrams(d, want) {
			t.Errorf("the diagram %v became %v with that of another call", want, d)
		}
	}
}
