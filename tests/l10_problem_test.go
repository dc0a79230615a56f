package tests

import (
	"fmt"
	"math"
	"math/rand/v2"
	"reflect"
	"slices"
	"strings"
	"testing"

	"loop.example/g00582/impl"
)

func problemOf(list ...impl.Constraint) impl.Problem { return impl.Problem{List: list} }

// problemOfTexts takes texts of valid constraints.
func problemOfTexts(t *testing.T, texts ...string) impl.Problem {
	t.Helper()
	var p impl.Problem
	for _, text := range texts {
		p.List = append(p.List, parsedConstraint(t, text))
	}
	return p
}

func copyOfProblem(p impl.Problem) impl.Problem {
	var list []impl.Constraint
	for _, c := range p.List {
		c.Regex, c.Coeffs = copyOf(c.Regex), slices.Clone(c.Coeffs)
		list = append(list, c)
	}
	return impl.Problem{List: list}
}

// The functions from here on are second ways to the results. They take constraints whose expressions are finite.

func isProblemByFields(p impl.Problem) bool {
	valid := 0
	for _, c := range p.List {
		if isValidByFields(c) {
			valid++
		}
	}
	return valid == len(p.List) && valid < 7
}

// varsOfAll takes valid problems.
func varsOfAll(p impl.Problem) string {
	occurs := map[rune]bool{}
	for _, c := range p.List {
		for _, name := range varsByFields(c) {
			occurs[name] = true
		}
	}
	vars := ""
	for _, name := range "XYZ" {
		if occurs[name] {
			vars += string(name)
		}
	}
	return vars
}

// isModelByTables takes values with short words.
func isModelByTables(p impl.Problem, v impl.Values) bool {
	if !isProblemByFields(p) || !areWords(v) {
		return false
	}
	for _, c := range p.List {
		if !holdsByTables(c, v) {
			return false
		}
	}
	for name, word := range tableOf(v) {
		if word != "" && !strings.Contains(varsOfAll(p), string(name)) {
			return false
		}
	}
	return true
}

// textOfProblem takes valid problems.
func textOfProblem(p impl.Problem) string {
	text := ""
	for _, c := range p.List {
		text = fmt.Sprintln(text + textByKind(c))
	}
	return text
}

// problemByBytes goes through the text byte by byte.
func problemByBytes(s string) (impl.Problem, int) {
	var p impl.Problem
	line, isOpen := []byte{}, false
	end := func() bool {
		c, ok := parsedByPattern(string(line))
		p.List = append(p.List, c)
		line, isOpen = nil, false
		return ok && len(p.List) <= 6
	}
	for i := range len(s) {
		isEnd := s[i] == 10
		if !isEnd {
			line, isOpen = append(line, s[i]), true
		}
		if isEnd && !end() {
			return impl.Problem{}, len(p.List) - 1
		}
	}
	if isOpen && !end() {
		return impl.Problem{}, len(p.List) - 1
	}
	return p, -1
}

func isSameProblem(a impl.Problem, b impl.Problem) bool {
	return slices.EqualFunc(a.List, b.List, hasSameFields)
}

// nameOfProblem takes constraints whose expressions are finite.
func nameOfProblem(p impl.Problem) string {
	if len(p.List) > 10 {
		return fmt.Sprintf("%d constraints", len(p.List))
	}
	var names []string
	for _, c := range p.List {
		names = append(names, nameOf(c))
	}
	return "[" + strings.Join(names, " ") + "]"
}

func checkProblemVars(t *testing.T, p impl.Problem, want string) {
	t.Helper()
	if got := impl.VarsOfProblem(p); got != want {
		t.Errorf("VarsOfProblem(%s) = %q, want %q", nameOfProblem(p), got, want)
	}
}

func checkModel(t *testing.T, p impl.Problem, v impl.Values, want bool) {
	t.Helper()
	if got := impl.IsModel(p, v); got != want {
		t.Errorf("IsModel(%s, %.120q) = %v", nameOfProblem(p), v, got)
	}
}

func checkAnyModel(t *testing.T, p impl.Problem, v impl.Values) {
	t.Helper()
	checkModel(t, p, v, isModelByTables(p, v))
}

// checkProblemText expects the problem for its text, with or without the last newline, and the text for the problem.
func checkProblemText(t *testing.T, text string, p impl.Problem) {
	t.Helper()
	if !impl.IsValidProblem(p) {
		t.Errorf("IsValidProblem(%s) = false", nameOfProblem(p))
	}
	if got := impl.FormatProblem(p); got != text {
		t.Errorf("FormatProblem(%s) = %q, want %q", nameOfProblem(p), got, text)
	}
	checkAcceptedText(t, text, p)
	checkAcceptedText(t, strings.TrimSuffix(text, "\n"), p)
}

func checkAcceptedText(t *testing.T, s string, p impl.Problem) {
	t.Helper()
	got, bad := impl.ParseProblem(s)
	if bad != -1 || !isSameProblem(got, p) || !impl.EqualProblem(got, p) || !impl.EqualProblem(p, got) {
		t.Errorf("ParseProblem(%.200q) = %s, %d, want %s, -1", s, nameOfProblem(got), bad, nameOfProblem(p))
	}
}

func checkRefusedText(t *testing.T, s string, line int) {
	t.Helper()
	if p, bad := impl.ParseProblem(s); bad != line || len(p.List) != 0 {
		t.Errorf("ParseProblem(%.200q) = %s, %d, want %d", s, nameOfProblem(p), bad, line)
	}
}

// checkAnyProblemText compares ParseProblem with its second way.
func checkAnyProblemText(t *testing.T, s string) {
	t.Helper()
	p, line := problemByBytes(s)
	if line >= 0 {
		checkRefusedText(t, s, line)
		return
	}
	checkAcceptedText(t, s, p)
	checkAnyProblem(t, p)
	if got := impl.FormatProblem(p); strings.TrimSuffix(got, "\n") != strings.TrimSuffix(s, "\n") {
		t.Errorf("FormatProblem of ParseProblem(%q) = %q", s, got)
	}
}

func checkWithout(t *testing.T, p impl.Problem, k int, want impl.Problem) {
	t.Helper()
	if got, ok := impl.WithoutConstraint(p, k); !ok || !isSameProblem(got, want) {
		t.Errorf("WithoutConstraint(%s, %d) = %s, %v, want %s", nameOfProblem(p), k, nameOfProblem(got), ok, nameOfProblem(want))
	}
}

func checkNotWithout(t *testing.T, p impl.Problem, k int) {
	t.Helper()
	if got, ok := impl.WithoutConstraint(p, k); ok || len(got.List) != 0 {
		t.Errorf("WithoutConstraint(%s, %d) = %s, %v", nameOfProblem(p), k, nameOfProblem(got), ok)
	}
}

// otherNumbers are numbers that no constraint has; the low bits of some of them are those of a number.
var otherNumbers = []int{-1, -2, -6, -7, 6, 7, 8, 256, 257, -255, 1 << 32, 1<<32 + 1, -1<<32 + 1, math.MaxInt32, math.MinInt32, math.MaxInt, math.MaxInt - 1, math.MinInt, math.MinInt + 1}

func checkAllWithout(t *testing.T, p impl.Problem) {
	t.Helper()
	for k := range p.List {
		rest := slices.Concat(p.List[:k], p.List[k+1:])
		checkWithout(t, p, k, impl.Problem{List: rest})
	}
	checkNotWithout(t, p, len(p.List))
	for _, k := range otherNumbers {
		checkNotWithout(t, p, k)
	}
}

// checkNoProblem expects what the document says of a problem that is not valid.
func checkNoProblem(t *testing.T, p impl.Problem) {
	t.Helper()
	if impl.IsValidProblem(p) {
		t.Errorf("IsValidProblem(%s) = true", nameOfProblem(p))
	}
	if got := impl.FormatProblem(p); got != "" {
		t.Errorf("FormatProblem(%s) = %.60q", nameOfProblem(p), got)
	}
	checkProblemVars(t, p, "")
	for _, v := range []impl.Values{{}, {X: "a"}, {X: "aaa", Y: "a"}, {X: "a", Y: "b", Z: "c"}, {Z: "#"}} {
		checkModel(t, p, v, false)
	}
	for k := range min(len(p.List), 10) {
		checkNotWithout(t, p, k)
	}
	for _, k := range otherNumbers {
		checkNotWithout(t, p, k)
	}
}

// checkAnyProblem compares the results for one problem with the second ways.
func checkAnyProblem(t *testing.T, p impl.Problem) {
	t.Helper()
	if !isProblemByFields(p) {
		checkNoProblem(t, p)
		return
	}
	checkProblemText(t, textOfProblem(p), p)
	checkProblemVars(t, p, varsOfAll(p))
	checkAllWithout(t, p)
}

// sixTexts are texts of valid constraints that hold for exampleValues.
var sixTexts = []string{"aX = Xa", "X != Yb", "XY in *a", "X out (b.)", "len -1 2 0 -1", "Ya != -"}

// invalidConstraints are each not valid for one reason, most of them like one of examples.
func invalidConstraints() []impl.Constraint {
	list := []impl.Constraint{
		{}, {Kind: 6}, {Kind: -1}, {Kind: 6, Left: "X", Right: "X"}, {Kind: math.MinInt},
		ofTerms(impl.CnEqual, "#", "#"), ofTerms(impl.CnEqual, "-", "-"), ofTerms(impl.CnDiffer, "X", "d"), ofTerms(impl.CnEqual, "aX\n", "Xa"), ofTerms(impl.CnEqual, "X", strings.Repeat("Y", 13)),
		ofRegex(impl.CnIn, "a", impl.Regex{}), ofRegex(impl.CnNotIn, "a", impl.Regex{}), ofRegex(impl.CnNotIn, "X", starsAround(6, letterOf("b"))), ofRegex(impl.CnIn, "", doubled(4, letterOf("a"))),
		ofRegex(impl.CnIn, "X", letterOf("d")), ofRegex(impl.CnNotIn, "Xd", leafOf(impl.RxAny)),
		ofLengths(0), ofLengths(99, 0, 0), ofLengths(99, 0, 0, 0, 0), ofLengths(99, -10, 0, 0), ofLengths(99, 0, 0, 10), ofLengths(100, 0, 0, 0), ofLengths(-100, -9, -9, -9),
	}
	for _, c := range examples() {
		for _, change := range otherFields(c.Kind) {
			other := c
			change(&other)
			list = append(list, other)
		}
	}
	return list
}

func TestMaxConstraints(t *testing.T) {
	if impl.MaxConstraints != 6 {
		t.Errorf("MaxConstraints = %d", impl.MaxConstraints)
	}
}

func TestProblemTexts(t *testing.T) {
	a, b := letterOf("a"), letterOf("b")
	for text, p := range map[string]impl.Problem{
		"":                         {},
		"X = a\n":                  problemOf(ofTerms(impl.CnEqual, "X", "a")),
		"- = -\n":                  problemOf(ofTerms(impl.CnEqual, "", "")),
		"aX = Xa\nX in (a.)\n":     problemOf(ofTerms(impl.CnEqual, "aX", "Xa"), ofRegex(impl.CnIn, "X", nodeOf(impl.RxCat, a, leafOf(impl.RxAny)))),
		"X in (a.)\naX = Xa\n":     problemOf(ofRegex(impl.CnIn, "X", nodeOf(impl.RxCat, a, leafOf(impl.RxAny))), ofTerms(impl.CnEqual, "aX", "Xa")),
		"X = a\nX = a\n":           problemOf(ofTerms(impl.CnEqual, "X", "a"), ofTerms(impl.CnEqual, "X", "a")),
		"len 1 -1 0 -3\nY out 1\n": problemOf(ofLengths(-3, 1, -1, 0), ofRegex(impl.CnNotIn, "Y", leafOf(impl.RxEmpty))),
		"X != -\nX = Y\nZ in *(a|b)\n- out 0\nlen 0 0 -9 99\nabcXYZ = ZYXcba\n": problemOf(
			ofTerms(impl.CnDiffer, "X", ""), ofTerms(impl.CnEqual, "X", "Y"), ofRegex(impl.CnIn, "Z", nodeOf(impl.RxStar, nodeOf(impl.RxOr, a, b))), ofRegex(impl.CnNotIn, "", leafOf(impl.RxNone)),
			ofLengths(99, 0, 0, -9), ofTerms(impl.CnEqual, "abcXYZ", "ZYXcba")),
	} {
		checkProblemText(t, text, p)
		checkAnyProblem(t, p)
		checkAnyProblemText(t, text)
	}
}

func TestIsValidProblem(t *testing.T) {
	checkAnyProblem(t, impl.Problem{List: nil})
	checkAnyProblem(t, impl.Problem{List: []impl.Constraint{}})
	checkAnyProblem(t, impl.Problem{List: make([]impl.Constraint, 0, 9)})
	for _, c := range append(examples(), parsedConstraint(t, "- = -"), parsedConstraint(t, "len 0 0 0 0")) {
		for n := range 20 {
			p := impl.Problem{List: slices.Repeat([]impl.Constraint{c}, n)}
			if got := impl.IsValidProblem(p); got != (n <= 6) {
				t.Errorf("IsValidProblem of %d constraints %s = %v", n, nameOf(c), got)
			}
			checkAnyProblem(t, p)
		}
	}
	six := problemOfTexts(t, sixTexts...)
	checkProblemText(t, strings.Join(sixTexts, "\n")+"\n", six)
	for _, text := range textsForTests {
		checkProblemText(t, text+"\n", problemOfTexts(t, text))
		checkNoProblem(t, problemOf(append(copyOfProblem(six).List, parsedConstraint(t, text))...))
	}
	checkNoProblem(t, impl.Problem{List: slices.Repeat(examples(), 1<<18)})
	checkNoProblem(t, impl.Problem{List: make([]impl.Constraint, 1<<20)})
}

func TestProblemsWithOneConstraintThatIsNotValid(t *testing.T) {
	six := problemOfTexts(t, sixTexts...)
	for _, c := range invalidConstraints() {
		if isValidByFields(c) {
			t.Errorf("%s is valid", nameOf(c))
		}
		for n := 1; n <= 7; n++ {
			for k := range n {
				list := slices.Clone(six.List[:n-1])
				checkNoProblem(t, impl.Problem{List: slices.Insert(list, k, c)})
			}
		}
		checkNoProblem(t, problemOf(c, c))
		// Constraints that are unused do not count.
		list := append(copyOfProblem(six).List[:6:6], c)
		checkAnyProblem(t, impl.Problem{List: list[:6]})
		checkAnyProblem(t, impl.Problem{List: append([]impl.Constraint{c, c}, list...)[2:5]})
		checkAnyProblem(t, impl.Problem{List: []impl.Constraint{c, c, c}[:0]})
	}
}

func TestProblemsWithVeryLargeExpressions(t *testing.T) {
	withoutTakingLong(t, func() {
		for _, r := range []impl.Regex{starsAround(1000000, letterOf("a")), doubled(64, leafOf(impl.RxAny)), ringOf(impl.RxStar), ringOf(impl.RxNot, impl.RxStar), ringOf(0)} {
			for kind := 1; kind <= 5; kind++ {
				for k := range 6 {
					p := problemOfTexts(t, sixTexts...)
					p.List[k] = ofRegex(kind, "", r)
					if impl.IsValidProblem(p) || impl.IsModel(p, exampleValues) || impl.VarsOfProblem(p) != "" || impl.FormatProblem(p) != "" {
						t.Errorf("a very large expression is accepted for the Kind %d", kind)
					}
					if got, ok := impl.WithoutConstraint(p, k); ok || len(got.List) != 0 {
						t.Errorf("WithoutConstraint accepts a very large expression of the Kind %d", kind)
					}
					if !impl.EqualProblem(p, p) || impl.EqualProblem(p, problemOfTexts(t, sixTexts...)) {
						t.Errorf("EqualProblem with a very large expression is wrong for the Kind %d", kind)
					}
				}
			}
		}
	})
}

func TestVarsOfProblem(t *testing.T) {
	for text, want := range map[string]string{
		"": "", "- = -": "", "a = b,abc in .,len 0 0 0 5": "",
		// In one constraint alone,
		"X = a,a = b": "X", "a = b,Y = a": "Y", "a = b,- in *a,Z != -,- = -": "Z", "a = X": "X", "a != Yb": "Y", "Z in 0": "Z", "ZaZ out 1": "Z", "a = a,b = b,c = c,a = b,b = c,XYZ = a": "XYZ",
		// in several,
		"X = a,X = b": "X", "X = a,b = X,X in *a,X out 0,len 1 0 0 1,aX != b": "X", "X = Y,Y = Z": "XYZ", "Z = Z,ZZ != ZZ": "Z", "X = Y,Y = X": "XY",
		// in an order in which they do not ascend,
		"Z = a,Y = a,X = a": "XYZ", "Z in 1,X in 1": "XZ", "Y != a,X != a": "XY", "Z = Y,X = a": "XYZ", "ZYX = -": "XYZ", "Z out 0,Y out 0": "YZ", "Y = a,Z = a,X = a": "XYZ", "len 0 0 1 1,X = a": "XZ",
		// with a Coeff other than 0, or with 0.
		"len 1 0 0 0": "X", "len 0 -1 0 0": "Y", "len 0 0 9 0": "Z", "len 0 0 0 99,len 0 0 0 -99": "", "len 1 0 0 0,len 0 1 0 0": "XY", "len 0 0 -3 1,len 2 0 0 1": "XZ", "len 1 0 0 0,len -1 0 0 0": "X",
		"len 0 0 0 0,X = a": "X", "X = a,len 0 0 0 0": "X", "Z = Z,len 0 7 0 9": "YZ", "len 0 7 0 9,Z = Z": "YZ", "len 1 2 3 4,a = b": "XYZ", "len 1 1 0 4,len 0 1 1 4": "XYZ",
		"len 0 0 1 1,len 0 1 0 1,len 1 0 0 1": "XYZ", "X in .,len 0 0 0 9,Y out a,len -1 0 0 4": "XY",
	} {
		var texts []string
		if text != "" {
			texts = strings.Split(text, ",")
		}
		p := problemOfTexts(t, texts...)
		checkProblemVars(t, p, want)
		checkAnyProblem(t, p)
		slices.Reverse(p.List)
		checkProblemVars(t, p, want)
	}
	valid := problemOfTexts(t, "X = Y", "Z in 1")
	checkProblemVars(t, valid, "XYZ")
	for _, c := range invalidConstraints() {
		checkProblemVars(t, problemOf(c, valid.List[0], valid.List[1]), "")
		checkProblemVars(t, problemOf(valid.List[0], valid.List[1], c), "")
	}
	checkProblemVars(t, impl.Problem{List: slices.Repeat(valid.List, 3)}, "XYZ")
	checkProblemVars(t, impl.Problem{List: slices.Repeat(valid.List, 4)}, "")
}

func TestIsModel(t *testing.T) {
	for _, c := range []struct {
		texts []string
		v     impl.Values
		want  bool
	}{
		{nil, impl.Values{}, true}, {nil, impl.Values{X: "a"}, false}, {nil, impl.Values{Y: "a"}, false}, {nil, impl.Values{Z: "a"}, false},
		{[]string{"aX = Xa", "X in (a.)"}, impl.Values{X: "aa"}, true}, {[]string{"aX = Xa", "X in (a.)"}, impl.Values{X: "ab"}, false}, {[]string{"aX = Xa", "X in (a.)"}, impl.Values{X: "a"}, false},
		{[]string{"aX = Xa", "X in (a.)"}, impl.Values{}, false}, {[]string{"aX = Xa", "X in (a.)"}, impl.Values{X: "aa", Y: "a"}, false}, {[]string{"aX = Xa", "X in (a.)"}, impl.Values{X: "aa", Z: "a"}, false},
		{[]string{"X = Y"}, impl.Values{X: "ab", Y: "ab"}, true}, {[]string{"X = Y"}, impl.Values{X: "ab", Y: "ab", Z: "c"}, false}, {[]string{"X = Y"}, impl.Values{}, true},
		{[]string{"X = Y", "Z = Z"}, impl.Values{X: "ab", Y: "ab", Z: "c"}, true}, {[]string{"Z = Z", "X = Y"}, impl.Values{X: "ab", Y: "ab", Z: "c"}, true},
		{[]string{"a = a"}, impl.Values{}, true}, {[]string{"a = a"}, impl.Values{X: "a"}, false}, {[]string{"a = b"}, impl.Values{}, false}, {[]string{"- in 1"}, impl.Values{}, true},
		{[]string{"X = X"}, impl.Values{X: "abc"}, true}, {[]string{"X = X"}, impl.Values{Y: "abc"}, false}, {[]string{"Y out 0"}, impl.Values{Y: "b"}, true}, {[]string{"Y out 0"}, impl.Values{X: "b"}, false},
		// A Coeff of 0 does not make the variable occur.
		{[]string{"len 1 0 0 2"}, impl.Values{X: "ab"}, true}, {[]string{"len 1 0 0 2"}, impl.Values{X: "abc"}, false}, {[]string{"len 1 0 0 2"}, impl.Values{X: "ab", Y: "a"}, false},
		{[]string{"len 1 0 0 2"}, impl.Values{X: "ab", Z: "a"}, false}, {[]string{"len 1 0 0 2", "Z out a"}, impl.Values{X: "ab", Z: "b"}, true}, {[]string{"len 0 0 0 0"}, impl.Values{}, true},
		{[]string{"len 0 0 0 99"}, impl.Values{X: "a"}, false}, {[]string{"len 0 0 0 99"}, impl.Values{Y: "a"}, false}, {[]string{"len 0 0 0 99"}, impl.Values{Z: "a"}, false},
		{[]string{"len 0 0 0 -1"}, impl.Values{}, false},
		{[]string{"len 0 0 -1 -2"}, impl.Values{Z: "ab"}, true}, {[]string{"len 0 0 -1 -2"}, impl.Values{Z: "a"}, false}, {[]string{"len 0 1 -1 0"}, impl.Values{Y: "ab", Z: "ba"}, true},
		// Words of MaxWord letters are words, longer ones are none.
		{[]string{"X in *a"}, impl.Values{X: strings.Repeat("a", 30)}, true}, {[]string{"X in *a"}, impl.Values{X: strings.Repeat("a", 31)}, false},
		{[]string{"XX in *a", "aX = Xa"}, impl.Values{X: strings.Repeat("a", 30)}, true}, {[]string{"X != b", "len 1 0 0 29"}, impl.Values{X: strings.Repeat("a", 30)}, false},
	} {
		p := problemOfTexts(t, c.texts...)
		checkModel(t, p, c.v, c.want)
		slices.Reverse(p.List)
		checkModel(t, p, c.v, c.want)
	}
}

func TestIsModelWhereOneConstraintDoesNotHold(t *testing.T) {
	six := problemOfTexts(t, sixTexts...)
	for n := 1; n <= 6; n++ {
		// Both variables of the values occur in all of these.
		for from := range 7 - n {
			p := impl.Problem{List: slices.Concat(six.List[from:from+n-1], problemOfTexts(t, "XY = YX").List)}
			checkModel(t, p, exampleValues, true)
			for _, text := range []string{"X = Y", "X != aaa", "Y in b", "aY out *a", "len 1 0 0 2", "- != -", "a = b", "len 0 0 0 -1"} {
				for k := range n - 1 {
					other := copyOfProblem(p)
					other.List[k] = parsedConstraint(t, text)
					checkModel(t, other, exampleValues, false)
					checkAnyModel(t, other, exampleValues)
				}
				other := copyOfProblem(p)
				other.List = append(other.List[:n-1:n-1], parsedConstraint(t, text), p.List[n-1])
				checkModel(t, other, exampleValues, false)
			}
		}
	}
	checkModel(t, six, exampleValues, true)
	checkModel(t, six, impl.Values{X: "aaa", Y: "a", Z: "a"}, false)
}

// valuesOver has all values with these words.
func valuesOver(words ...string) []impl.Values {
	var list []impl.Values
	for _, x := range words {
		for _, y := range words {
			for _, z := range words {
				list = append(list, impl.Values{X: x, Y: y, Z: z})
			}
		}
	}
	return list
}

func TestIsModelOfVariablesThatDoNotOccur(t *testing.T) {
	lists := map[string][][]string{
		"":    {nil, {"- = -"}, {"a != b", "- out 0", "len 0 0 0 5"}},
		"X":   {{"X = X"}, {"XX out 0"}, {"len 1 0 0 99"}, {"len 0 0 0 0", "aXb != -"}},
		"Y":   {{"YY = YY"}, {"- in 1", "Y in !0"}, {"len 0 -9 0 99", "len 0 1 0 99"}},
		"Z":   {{"Z = Z"}, {"Z out 0", "a = a"}, {"len 0 0 2 99"}},
		"XY":  {{"XY = XY"}, {"X = X", "Y = Y"}, {"Y != Yb", "len 5 0 0 99"}, {"len 1 1 0 99"}},
		"XZ":  {{"ZX in !0"}, {"Z in !0", "X in !0"}, {"len -1 0 1 99"}},
		"YZ":  {{"ZY = ZY"}, {"len 0 0 1 99", "Y = Y"}, {"Z != aZ", "len 0 1 0 99"}},
		"XYZ": {{"XYZ = XYZ"}, {"Z = Z", "Y = Y", "X = X"}, {"len 1 1 1 99"}, {"YZ in !0", "len 3 0 0 99"}},
	}
	for vars, problems := range lists {
		for _, texts := range problems {
			p := problemOfTexts(t, texts...)
			checkProblemVars(t, p, vars)
			for _, v := range valuesOver("", "a", "cb") {
				// All constraints hold for all values.
				isEmpty := func(name byte) bool { return tableOf(v)[name] == "" || strings.IndexByte(vars, name) >= 0 }
				checkModel(t, p, v, isEmpty('X') && isEmpty('Y') && isEmpty('Z'))
				checkAnyModel(t, p, v)
			}
		}
	}
}

func TestIsModelOfValuesThatAreNoWords(t *testing.T) {
	for _, texts := range [][]string{
		nil, {"- = -"}, {"X = X"}, {"Y = Y"}, {"Z in !0"}, {"XYZ out 0"}, {"len 0 0 0 0"}, {"len 1 1 1 99"}, {"X != aX", "Y != aY", "Z != aZ"}, {"a != b", "X in !0"}, sixTexts,
	} {
		p := problemOfTexts(t, texts...)
		for _, v := range valuesOfOthers() {
			checkModel(t, p, v, false)
		}
		for _, v := range valuesForTests() {
			if !areWords(v) {
				checkModel(t, p, v, false)
			}
		}
	}
}

func TestIsModelOfProblemsThatAreNotValid(t *testing.T) {
	holding := problemOfTexts(t, append(sixTexts, "XY = YX")...)
	for _, c := range holding.List {
		checkHolds(t, c, exampleValues, true)
	}
	checkModel(t, impl.Problem{List: holding.List[:6]}, exampleValues, true)
	checkModel(t, impl.Problem{List: holding.List[1:]}, exampleValues, true)
	checkModel(t, holding, exampleValues, false)
	none := impl.Problem{List: slices.Repeat(problemOfTexts(t, "- = -").List, 7)}
	checkModel(t, none, impl.Values{}, false)
	checkModel(t, impl.Problem{List: none.List[:6]}, impl.Values{}, true)
	for _, c := range invalidConstraints() {
		for k := range 6 {
			p := impl.Problem{List: slices.Clone(holding.List[:6])}
			p.List[k] = c
			checkModel(t, p, exampleValues, false)
			checkModel(t, p, impl.Values{}, false)
		}
		checkModel(t, problemOf(c), impl.Values{}, false)
	}
}

func TestFormatProblem(t *testing.T) {
	for _, list := range [][]string{nil, {"X = a"}, {"- in 1", "- in 1"}, sixTexts, textsForTests[:6], textsForTests[6:12], textsForTests[14:]} {
		p := problemOfTexts(t, list...)
		want := ""
		for _, text := range list {
			want += text + string([]byte{10})
		}
		checkProblemText(t, want, p)
		checkAnyProblem(t, p)
	}
	for _, text := range textsForTests {
		checkProblemText(t, strings.Repeat(text+"\n", 6), impl.Problem{List: slices.Repeat(problemOfTexts(t, text).List, 6)})
		checkNoProblem(t, impl.Problem{List: slices.Repeat(problemOfTexts(t, text).List, 7)})
	}
}

func TestParseProblemOfNewlines(t *testing.T) {
	one, two := problemOfTexts(t, "X = a"), problemOfTexts(t, "X = a", "Y in .")
	for _, c := range []struct {
		s string
		p impl.Problem
	}{
		{"", impl.Problem{}}, {"X = a", one}, {"X = a\n", one}, {"X = a\nY in .", two}, {"X = a\nY in .\n", two}, {"- = -", problemOfTexts(t, "- = -")},
	} {
		checkAcceptedText(t, c.s, c.p)
		checkAnyProblemText(t, c.s)
	}
	for s, line := range map[string]int{
		"\n": 0, "\n\n": 0, "\n\n\n\n\n\n\n\n\n": 0, "\nX = a": 0, "\nX = a\n": 0, "\n\nX = a\n": 0, "X = a\n\n": 1, "X = a\n\n\n": 1, "X = a\n\nY in .": 1, "X = a\n\nY in .\n": 1, "X = a\n\n\nY in .\n": 1,
		"X = a\nY in .\n\n": 2, "\nX = a\nY in .\n": 0, "\n\nhm": 0, "X = a\n\nhm": 1,
		" ": 0, " \n": 0, "\n ": 0, "X = a\n ": 1, "X = a\n \n": 1, " \nX = a": 0,
	} {
		checkRefusedText(t, s, line)
		checkAnyProblemText(t, s)
	}
	for n := range 6 {
		list := sixTexts[:n]
		text := strings.Repeat("- = -\n", n)
		checkRefusedText(t, text+"\n", n)
		checkRefusedText(t, text+"\n\n", n)
		checkRefusedText(t, text+"\nX = a\n", n)
		checkAcceptedText(t, strings.Join(list, "\n"), problemOfTexts(t, list...))
	}
}

func TestParseProblemOfManyLines(t *testing.T) {
	for _, end := range []string{"", "\n", "\n\n", "\nX = a", "\nhm", "\n\nX = a\n", "\n ", "\n-", "\n\xff"} {
		for n := 5; n <= 9; n++ {
			list := slices.Repeat([]string{"X = a"}, n)
			s := strings.Join(list, "\n") + end
			checkAnyProblemText(t, s)
			if n > 6 || n == 6 && len(end) > 1 {
				checkRefusedText(t, s, 6)
			}
			for k := range n {
				for _, other := range []string{"hm", "", " ", "X = a ", "- = ", "len 0 0 0 100", "X = a\r"} {
					changed := slices.Clone(list)
					changed[k] = other
					s := strings.Join(changed, "\n") + end
					checkAnyProblemText(t, s)
					// The last line is no line if it is empty.
					if isAccepted := other == "" && end == "" && k == n-1 && n <= 7; !isAccepted {
						checkRefusedText(t, s, min(k, 6))
					}
				}
			}
		}
	}
	six := problemOfTexts(t, sixTexts...)
	text := strings.Join(sixTexts, "\n")
	checkAcceptedText(t, text, six)
	checkAcceptedText(t, text+"\n", six)
	for _, seventh := range textsForTests {
		checkRefusedText(t, text+"\n"+seventh, 6)
		checkRefusedText(t, text+"\n"+seventh+"\n", 6)
		checkRefusedText(t, text+"\n"+seventh+"\n"+seventh+"\n", 6)
		checkRefusedText(t, seventh+"\n"+text, 6)
	}
}

func TestParseProblemOfLinesThatAreNotAccepted(t *testing.T) {
	others := []string{
		"", " ", "hm", "X", "X =", "X = ", " X = a", "X = a ", "X  = a", "X =  a", "X = d", "= a", "x = a", "X == a", "X is a", "X in", "X in (", "X in a*", "X in ()", "X out d", "len", "len 1 2 3", "len 1 2 3 100",
		"len 1 2 3 4 5", "len 10 0 0 0", "len 01 0 0 0", "X = a\r", "\rX = a", "X = a\t", "\tX = a", "X =\ta", "X = a\v", "X = a\f", "X = a\x00", "\x00", "\r", "\t",
		"X = \xff", "\xff", "X = a\x80", "\u00e9", "X = \u00e9",
		"X = a\u0085", "X = a\u2028", "\u2028", "X = a\u2029X = a", "X = a\rX = a", "X = a\vX = a", "X = a;", "X = a,Y = b",
		"X = a; Y = b", "X = a X = a", "X = a\\n", "X = aaaaaaaaaaaaa", "******a", "X in ******a", "#", "// X = a",
	}
	for _, other := range others {
		if strings.Contains(other, "\n") {
			t.Fatalf("%q has more than one line", other)
		}
		for n := 1; n <= 6; n++ {
			for k := range n {
				list := slices.Clone(sixTexts[:n])
				list[k] = other
				checkRefusedText(t, strings.Join(list, "\n")+"\n", k)
				if other != "" || k < n-1 {
					checkRefusedText(t, strings.Join(list, "\n"), k)
				}
				// The first of two lines counts.
				for j := k + 1; j < n; j++ {
					twice := slices.Clone(list)
					twice[j] = other
					checkRefusedText(t, strings.Join(twice, "\n")+"\n", k)
					twice[j] = "hm"
					checkRefusedText(t, strings.Join(twice, "\n"), k)
				}
			}
		}
	}
}

func TestParseProblemOfOtherLineEnds(t *testing.T) {
	list := sixTexts[:3]
	for _, end := range []string{"\r\n", "\n\r", "\r", " \n", "\n ", "\t\n", "\n\t", "\n\n", "\v", "\f", "\x00", "\x00\n", ";", ",", " ", "", "\\n", "\u0085", "\u2028", "\u2029", "\x85", "\x8a", "\x1e", "\u010a"} {
		line := 0
		if strings.HasPrefix(end, "\n") {
			line = 1
		}
		checkRefusedText(t, strings.Join(list, end), line)
		checkRefusedText(t, strings.Join(list, end)+end, line)
		checkAnyProblemText(t, strings.Join(list, end)+"\n")
	}
	for b := range 256 {
		s := string([]byte{byte(b)})
		for _, text := range []string{
			"X = a" + s, s + "X = a", "X = a" + s + "\nY = b\n", "X = a\n" + s + "Y = b\n", "X = a\nY = b" + s, "X = a\nY = b\n" + s, "X = a" + s + "Y = b\n", s, s + s, "X =" + s + "a\nX = a\n",
		} {
			checkAnyProblemText(t, text)
		}
	}
}

// problemTexts have lines of all forms.
func problemTexts() []string {
	return []string{
		"X = a\n", "aX = Xa\nX in (a.)\n", "- = -\nX != -\n", "len 1 -1 0 -3\nY out 1\n", "X out (.|!b)\nlen 9 9 9 99\n- = Y", strings.Join(sixTexts, "\n") + "\n", strings.Join(sixTexts, "\n"),
		strings.Repeat("X = a\n", 6), strings.Repeat("Z != c\n", 7), "X = a\n\nX = a\n", "X = a\nhm\nX = a\n",
	}
}

func TestParseProblemOfChangedTexts(t *testing.T) {
	for _, text := range problemTexts() {
		for i := range len(text) + 1 {
			for b := range 256 {
				other := string([]byte{byte(b)})
				checkAnyProblemText(t, text[:i]+other+text[i:])
				if i < len(text) {
					checkAnyProblemText(t, text[:i]+other+text[i+1:])
				}
			}
			for j := i; j <= len(text); j++ {
				checkAnyProblemText(t, text[:i]+text[j:])
			}
		}
	}
}

func TestParseProblemOfTextsThatAreCutOff(t *testing.T) {
	for _, text := range problemTexts() {
		for i := range len(text) + 1 {
			checkAnyProblemText(t, text[:i])
			checkAnyProblemText(t, text[i:])
		}
	}
	text := "aX = Xa\nX in (a.)\nlen 1 0 0 -5\n"
	// A text that is cut off within a line is refused for this line.
	for i := 1; i < len(text); i++ {
		line := strings.Count(text[:i], "\n")
		switch i {
		case len("aX = X"), len("aX = Xa"), len("aX = Xa\n"), len("aX = Xa\nX in (a.)"), len("aX = Xa\nX in (a.)\n"), len(text) - 1:
			line = -1
		}
		if _, got := impl.ParseProblem(text[:i]); got != line {
			t.Errorf("ParseProblem(%q) gives %d, want %d", text[:i], got, line)
		}
	}
}

func TestParseProblemOfEveryListOfLines(t *testing.T) {
	parts := []string{"X = a", "", "len 1 0 0 2", "?"}
	lists := [][]string{nil}
	for range 7 {
		var longer [][]string
		for _, list := range lists {
			for _, part := range parts {
				next := append(slices.Clone(list), part)
				longer = append(longer, next)
				checkAnyProblemText(t, strings.Join(next, "\n"))
			}
		}
		lists = longer
	}
	for _, s := range stringsOver("X= \n", 8) {
		checkAnyProblemText(t, s)
	}
	for _, s := range stringsOver("X\n", 7) {
		checkAnyProblemText(t, "X = "+s)
		checkAnyProblemText(t, "X = X\n- = "+s)
	}
}

func TestParseProblemOfVeryLongTexts(t *testing.T) {
	withoutTakingLong(t, func() {
		for _, n := range []int{50, 1 << 18} {
			for part, line := range map[string]int{"\n": 0, "X = a\n": 6, "- = -\nhm\n": 1, "X = a": 0, "X": 0, " ": 0, "\xff": 0, "X = a\nX = a\n\n": 2, "len 1 2 3 4 ": 0, "\r\n": 0, "(": 0} {
				long := strings.Repeat(part, n)
				checkRefusedText(t, long, line)
				checkRefusedText(t, "\n"+long, 0)
				checkRefusedText(t, "hm\n"+long, 0)
				checkRefusedText(t, "X = a\n"+long, min(line+1, 6))
				checkRefusedText(t, strings.Repeat("X = a\n", 6)+long, 6)
			}
			long := strings.Repeat("a", n)
			for _, s := range []string{"X = " + long, "X in " + long, "X in " + strings.Repeat("*", n), "X in " + strings.Repeat("(", n), "len 0 0 0 " + strings.Repeat("9", n), long + " = X"} {
				checkRefusedText(t, s, 0)
				checkRefusedText(t, "X = a\n"+s+"\n", 1)
				checkRefusedText(t, "X = a\n"+s+"\nhm", 1)
			}
		}
	})
}

func TestWithoutConstraint(t *testing.T) {
	for _, c := range []struct {
		k          int
		text, want string
	}{
		{0, "X = a\n", ""}, {0, "aX = Xa\nX in (a.)\n", "X in (a.)\n"}, {1, "aX = Xa\nX in (a.)\n", "aX = Xa\n"},
		{0, "X = a\nX = b\nX = c\n", "X = b\nX = c\n"}, {1, "X = a\nX = b\nX = c\n", "X = a\nX = c\n"}, {2, "X = a\nX = b\nX = c\n", "X = a\nX = b\n"},
		// Equal constraints are told apart by their numbers.
		{1, "X = a\nX = a\nX = b\nX = a\n", "X = a\nX = b\nX = a\n"}, {2, "X = a\nX = a\nX = b\nX = a\n", "X = a\nX = a\nX = a\n"},
	} {
		p, bad := impl.ParseProblem(c.text)
		q, ok := impl.WithoutConstraint(p, c.k)
		if bad != -1 || !ok || impl.FormatProblem(q) != c.want || !impl.IsValidProblem(q) {
			t.Errorf("WithoutConstraint(%q, %d) = %q, %v, want %q", c.text, c.k, impl.FormatProblem(q), ok, c.want)
		}
	}
	for n := range 7 {
		p := problemOfTexts(t, sixTexts[:n]...)
		checkAllWithout(t, p)
		checkNotWithout(t, p, n)
		for k := range n {
			q, _ := impl.WithoutConstraint(p, k)
			checkAnyProblem(t, q)
			checkProblemText(t, strings.Replace(textOfProblem(p), sixTexts[k]+"\n", "", 1), q)
		}
	}
	for _, text := range textsForTests {
		p := problemOfTexts(t, "X = a", text, "Y = b", text)
		checkAllWithout(t, p)
		q, ok := impl.WithoutConstraint(p, 0)
		if !ok || impl.FormatProblem(q) != text+"\nY = b\n"+text+"\n" {
			t.Errorf("WithoutConstraint gives %s, %v", nameOfProblem(q), ok)
		}
	}
	checkAllWithout(t, impl.Problem{})
	checkAllWithout(t, impl.Problem{List: []impl.Constraint{}})
	// Constraints that are unused do not count.
	list := problemOfTexts(t, sixTexts...).List
	checkNotWithout(t, impl.Problem{List: list[:3]}, 3)
	checkNotWithout(t, impl.Problem{List: list[:0]}, 0)
	checkWithout(t, impl.Problem{List: list[:3]}, 2, impl.Problem{List: list[:2]})
}

func TestWithoutConstraintUntilNoneIsLeft(t *testing.T) {
	for _, order := range [][]int{{0, 0, 0, 0, 0, 0}, {5, 4, 3, 2, 1, 0}, {2, 3, 1, 0, 1, 0}, {5, 0, 3, 0, 1, 0}} {
		p, texts := problemOfTexts(t, sixTexts...), slices.Clone(sixTexts)
		for _, k := range order {
			q, ok := impl.WithoutConstraint(p, k)
			texts = slices.Delete(texts, k, k+1)
			if !ok || !isSameProblem(q, problemOfTexts(t, texts...)) {
				t.Errorf("WithoutConstraint(%s, %d) = %s, %v", nameOfProblem(p), k, nameOfProblem(q), ok)
			}
			p = q
		}
		checkNotWithout(t, p, 0)
	}
}

func TestWithoutConstraintOfProblemsThatAreNotValid(t *testing.T) {
	seven := problemOfTexts(t, append(sixTexts, "X = X")...)
	for k := -1; k <= 7; k++ {
		checkNotWithout(t, seven, k)
	}
	for _, c := range invalidConstraints() {
		for k := range 3 {
			p := problemOfTexts(t, sixTexts[:3]...)
			p.List[k] = c
			// Not even without the one that is not valid.
			for j := -1; j <= 3; j++ {
				checkNotWithout(t, p, j)
			}
		}
		checkNotWithout(t, problemOf(c), 0)
	}
}

func checkEqualProblems(t *testing.T, a impl.Problem, b impl.Problem, want bool) {
	t.Helper()
	if got := impl.EqualProblem(a, b); got != want {
		t.Errorf("EqualProblem(%s, %s) = %v", nameOfProblem(a), nameOfProblem(b), got)
	}
}

func TestEqualProblem(t *testing.T) {
	var list []impl.Problem
	for _, texts := range [][]string{
		nil, {"X = a"}, {"X = b"}, {"X = a", "X = a"}, {"X = a", "X = b"}, {"X = b", "X = a"}, {"X = b", "X = b"}, {"a = X"},
		{"X != a"}, {"X in a"}, {"X out a"}, {"X in b"}, {"Y in a"}, {"len 1 0 0 0"}, {"len 1 0 0 1"}, {"len 0 1 0 0"},
		sixTexts, sixTexts[:5], sixTexts[1:], append(slices.Clone(sixTexts), "X = a"), append(slices.Clone(sixTexts), "X = b"),
		{"X = a", "X = b", "X = c"}, {"X = a", "X = c", "X = b"}, {"X = b", "X = a", "X = c"}, {"X = b", "X = c", "X = a"}, {"X = c", "X = a", "X = b"},
		{"X = c", "X = b", "X = a"}, {"X = a", "X = a", "X = b"}, {"X = a", "X = b", "X = b"},
		{"- = -"}, {"- = -", "- = -"},
	} {
		list = append(list, problemOfTexts(t, texts...))
	}
	// Problems that are not valid are compared too.
	list = append(list, problemOf(impl.Constraint{}), problemOf(impl.Constraint{}, impl.Constraint{}), impl.Problem{List: make([]impl.Constraint, 7)}, impl.Problem{List: make([]impl.Constraint, 8)},
		problemOf(impl.Constraint{Kind: 77}), problemOf(ofTerms(impl.CnEqual, "#", "#")), problemOf(ofTerms(impl.CnEqual, "#", "-")))
	for i, p := range list {
		for j, q := range list {
			checkEqualProblems(t, p, copyOfProblem(q), i == j)
		}
		checkEqualProblems(t, p, p, true)
		checkEqualProblems(t, p, impl.Problem{List: append(slices.Clone(p.List), impl.Constraint{})}, false)
	}
	none := []impl.Problem{{}, {List: []impl.Constraint{}}, {List: make([]impl.Constraint, 0, 5)}, {List: []impl.Constraint{{Kind: 1}, {Kind: 2}}[:0]}}
	for _, p := range none {
		for _, q := range none {
			checkEqualProblems(t, p, q, true)
		}
		checkEqualProblems(t, p, problemOf(impl.Constraint{}), false)
		checkEqualProblems(t, problemOf(impl.Constraint{}), p, false)
	}
}

func TestEqualProblemOneFieldOfOneConstraint(t *testing.T) {
	constraints := differingConstraints()
	for k := range 6 {
		around := func(c impl.Constraint) impl.Problem {
			p := problemOfTexts(t, sixTexts...)
			p.List[k] = c
			return p
		}
		for i, c := range constraints {
			// The first constraint differs from most others in one field alone.
			for j, d := range constraints {
				if k == 3 || i < 3 || j < 3 || i == j {
					checkEqualProblems(t, around(c), copyOfProblem(around(d)), i == j)
				}
			}
		}
	}
	for _, r := range differing() {
		for _, s := range differing()[:5] {
			p, q := problemOf(ofRegex(impl.CnIn, "X", r)), problemOf(ofRegex(impl.CnIn, "X", s))
			checkEqualProblems(t, p, q, impl.EqualRegex(r, s))
		}
	}
	with := problemOf(impl.Constraint{Kind: impl.CnEqual, Left: "X", Coeffs: []int{}, Regex: impl.Regex{Args: []impl.Regex{}}})
	without := problemOf(ofTerms(impl.CnEqual, "X", ""))
	checkEqualProblems(t, with, without, true)
	checkEqualProblems(t, without, with, true)
	checkProblemText(t, "X = -\n", with)
}

func TestEqualProblemOfVeryLargeProblems(t *testing.T) {
	withoutTakingLong(t, func() {
		long := impl.Problem{List: slices.Repeat(examples(), 1<<17)}
		other := impl.Problem{List: slices.Clone(long.List)}
		if !impl.EqualProblem(long, other) {
			t.Error("EqualProblem of very many constraints = false")
		}
		other.List[len(other.List)-1].Bound++
		if impl.EqualProblem(long, other) || impl.EqualProblem(long, impl.Problem{List: long.List[1:]}) {
			t.Error("EqualProblem of very many constraints that differ = true")
		}
		ring, longer := problemOf(ofRegex(impl.CnIn, "X", ringOf(impl.RxStar))), problemOf(ofRegex(impl.CnIn, "X", ringOf(impl.RxStar, impl.RxStar)))
		if !impl.EqualProblem(ring, ring) || !impl.EqualProblem(ring, longer) || impl.EqualProblem(ring, problemOf(ofRegex(impl.CnIn, "X", ringOf(impl.RxNot)))) {
			t.Error("EqualProblem with expressions that contain themselves is wrong")
		}
	})
}

// memoryOfProblems collects the addresses of all elements, the unused ones too.
type memoryOfProblems struct {
	constraints map[*impl.Constraint]bool
	regexes     map[*impl.Regex]bool
	numbers     map[*int]bool
	count       int
}

func newMemory() *memoryOfProblems {
	return &memoryOfProblems{constraints: map[*impl.Constraint]bool{}, regexes: map[*impl.Regex]bool{}, numbers: map[*int]bool{}}
}

func (m *memoryOfProblems) add(p impl.Problem) {
	list := p.List[:cap(p.List)]
	for i := range list {
		m.constraints[&list[i]] = true
		m.count += 1 + placesOfConstraint(list[i], m.regexes, m.numbers)
	}
}

func (m *memoryOfProblems) isShared() bool {
	return len(m.constraints)+len(m.regexes)+len(m.numbers) != m.count
}

// spoilAll changes all elements of a problem, the unused ones too.
func spoilAll(p impl.Problem) {
	list := p.List[:cap(p.List)]
	for i := range list {
		for c := list[i].Coeffs[:cap(list[i].Coeffs)]; len(c) > 0; c = c[1:] {
			c[0] = 77
		}
		spoilArgs(list[i].Regex)
		list[i] = impl.Constraint{Kind: 77}
	}
}

func spoilArgs(r impl.Regex) {
	args := r.Args[:cap(r.Args)]
	for i := range args {
		spoilArgs(args[i])
		args[i] = impl.Regex{Kind: 77}
	}
}

func TestParsedProblemsAreNewMemory(t *testing.T) {
	for _, text := range append(problemTexts(), strings.Repeat("X in *(ab)\n", 6), strings.Repeat("len 1 2 3 4\n", 6)) {
		memory := newMemory()
		var results []impl.Problem
		for range 3 {
			p, _ := impl.ParseProblem(text)
			memory.add(p)
			results = append(results, p)
		}
		if memory.isShared() {
			t.Errorf("results of ParseProblem(%q) share memory", text)
		}
		want, _ := problemByBytes(text)
		spoilAll(results[1])
		spoilAll(results[2])
		if !isSameProblem(results[0], want) {
			t.Errorf("a result of ParseProblem(%q) is changed with another one", text)
		}
		checkAnyProblemText(t, text)
	}
}

func TestWithoutConstraintGivesNewMemory(t *testing.T) {
	texts := []string{"X in *(ab)", "len 1 2 3 4", "X out ((a|b)&!.)", "aX = Xa", "len -1 0 0 5", "Y in (a(b(c.)))"}
	for n := 1; n <= 6; n++ {
		p := withUnusedConstraints(problemOfTexts(t, texts[:n]...))
		memory := newMemory()
		memory.add(p)
		var results []impl.Problem
		for k := range n {
			for range 2 {
				q, ok := impl.WithoutConstraint(p, k)
				if !ok {
					t.Errorf("WithoutConstraint(%s, %d) gives false", nameOfProblem(p), k)
				}
				memory.add(q)
				results = append(results, q)
			}
		}
		if memory.isShared() {
			t.Errorf("results of WithoutConstraint(%s) share memory", nameOfProblem(p))
		}
		for i, q := range results {
			want := problemOfTexts(t, slices.Delete(slices.Clone(texts[:n]), i/2, i/2+1)...)
			if !isSameProblem(q, want) {
				t.Errorf("a result is changed to %s", nameOfProblem(q))
			}
			spoilAll(q)
		}
		if !isSameProblem(p, problemOfTexts(t, texts[:n]...)) {
			t.Errorf("the argument is changed to %s", nameOfProblem(p))
		}
		q, _ := impl.WithoutConstraint(p, 0)
		spoilAll(p)
		if !isSameProblem(q, problemOfTexts(t, texts[1:n]...)) {
			t.Errorf("a result is changed with the argument to %s", nameOfProblem(q))
		}
	}
	// The slices of one argument may share memory, those of the result may not.
	c := parsedConstraint(t, "len 1 2 3 4")
	r := parsedConstraint(t, "X in *(ab)")
	q, _ := impl.WithoutConstraint(problemOf(c, c, r, r, c), 0)
	memory := newMemory()
	memory.add(q)
	if memory.isShared() {
		t.Error("the constraints of one result share memory")
	}
}

// withUnusedConstraints returns a copy of p whose slices have elements that are not used.
func withUnusedConstraints(p impl.Problem) impl.Problem {
	var list []impl.Constraint
	for _, c := range p.List {
		list = append(list, withUnusedElements(c))
	}
	list = append(list, withUnusedElements(ofRegex(impl.CnIn, "X", starsAround(1, letterOf("a")))), withUnusedElements(impl.Constraint{Kind: 78}))
	return impl.Problem{List: list[:len(p.List)]}
}

// allConstraints returns a copy of p in which all elements are used.
func allConstraints(p impl.Problem) []impl.Constraint {
	var list []impl.Constraint
	for _, c := range p.List[:len(p.List)+2] {
		list = append(list, allElements(c))
	}
	return list
}

func TestProblemFunctionsKeepTheirArguments(t *testing.T) {
	list := []impl.Problem{
		{}, problemOfTexts(t, sixTexts...), problemOfTexts(t, textsForTests[10:14]...), problemOfTexts(t, textsForTests...), problemOf(differingConstraints()[:5]...), problemOf(invalidConstraints()[:6]...),
	}
	for _, text := range textsForTests {
		list = append(list, problemOfTexts(t, text), problemOfTexts(t, "Y = Z", text, "len 1 2 3 4"))
	}
	for i, original := range list {
		other := list[(i+1)%len(list)]
		p, q := withUnusedConstraints(original), withUnusedConstraints(other)
		impl.IsValidProblem(p)
		impl.VarsOfProblem(p)
		impl.FormatProblem(p)
		impl.EqualProblem(p, q)
		impl.EqualProblem(p, p)
		for _, v := range []impl.Values{{}, exampleValues, {X: "#"}} {
			impl.IsModel(p, v)
		}
		for k := -1; k <= len(p.List); k++ {
			impl.WithoutConstraint(p, k)
		}
		if !reflect.DeepEqual(allConstraints(p), allConstraints(withUnusedConstraints(original))) || !reflect.DeepEqual(allConstraints(q), allConstraints(withUnusedConstraints(other))) {
			t.Errorf("an argument is changed to %s or %s", nameOfProblem(p), nameOfProblem(q))
		}
		checkAnyProblem(t, p)
	}
}

// randomProblem is valid in many cases.
func randomProblem(random *rand.Rand) impl.Problem {
	var p impl.Problem
	for range random.IntN(4) + random.IntN(2)*random.IntN(5) {
		p.List = append(p.List, randomConstraint(random))
	}
	return p
}

func TestRandomProblems(t *testing.T) {
	random := rand.New(rand.NewPCG(10, 1))
	valid := map[int]int{}
	last := impl.Problem{}
	for range 12000 {
		p := randomProblem(random)
		checkAnyProblem(t, p)
		if isProblemByFields(p) {
			valid[len(p.List)]++
		}
		checkEqualProblems(t, p, last, isSameProblem(p, last))
		checkEqualProblems(t, p, withUnusedConstraints(p), true)
		if n := len(p.List); n > 0 {
			q := copyOfProblem(p)
			spoil(random, &q.List[random.IntN(n)])
			checkEqualProblems(t, p, q, isSameProblem(p, q))
			q = copyOfProblem(p)
			random.Shuffle(n, func(i, j int) { q.List[i], q.List[j] = q.List[j], q.List[i] })
			checkEqualProblems(t, p, q, isSameProblem(p, q))
		}
		last = p
	}
	for n := range 7 {
		if valid[n] < 50 {
			t.Errorf("%d random problems with %d constraints are valid", valid[n], n)
		}
	}
}

// checkModelOfParts expects that a model stays one without a constraint if no variable is lost with it.
func checkModelOfParts(t *testing.T, p impl.Problem, v impl.Values) {
	t.Helper()
	for k := range p.List {
		q, _ := impl.WithoutConstraint(p, k)
		if varsOfAll(q) == varsOfAll(p) {
			checkModel(t, q, v, true)
		}
	}
}

func TestRandomModels(t *testing.T) {
	random := rand.New(rand.NewPCG(10, 2))
	models, failing := 0, 0
	for range 6000 {
		p := randomProblem(random)
		letters := strings.Split("abc", "")[:1+random.IntN(3)]
		for range 6 {
			word := func() string { return randomString(random, letters, random.IntN(4)*random.IntN(2)) }
			v := impl.Values{X: word(), Y: word(), Z: word()}
			checkAnyModel(t, p, v)
			if impl.IsModel(p, v) {
				models++
				checkModelOfParts(t, p, v)
			} else if isProblemByFields(p) {
				failing++
			}
		}
	}
	if models < 2000 || failing < 2000 {
		t.Errorf("%d random values are models, %d are not", models, failing)
	}
}

func TestRandomProblemTexts(t *testing.T) {
	random := rand.New(rand.NewPCG(10, 3))
	parts := []string{"-", "X", "Y", "a", "b", "=", "!=", "in", "out", "len", "0", "1", "-9", "99", "(ab)", "*a", " ", " ", "\n", "\r", "\xff"}
	ends := []string{"\n", "\n", "\n", "\n", "\n", "\n", "\n", "\n", "\n", "\n", "\n\n", "", " ", "\r\n"}
	accepted := map[int]int{}
	refused := map[int]int{}
	for range 30000 {
		text := ""
		for range random.IntN(9) {
			line := randomTextOf(random, parts)
			if random.IntN(3) > 0 {
				line = textsForTests[random.IntN(len(textsForTests))]
			}
			text += line + ends[random.IntN(len(ends))]
		}
		if random.IntN(4) == 0 {
			text = strings.TrimSuffix(text, "\n")
		}
		checkAnyProblemText(t, text)
		p, line := impl.ParseProblem(text)
		if line >= 0 {
			refused[line]++
		} else {
			accepted[len(p.List)]++
		}
	}
	for n := range 7 {
		if accepted[n] < 50 || refused[n] < 50 {
			t.Errorf("%d random texts of %d lines are accepted, %d are refused at line %d", accepted[n], n, refused[n], n)
		}
	}
}
