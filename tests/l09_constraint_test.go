package tests

import (
	"fmt"
	"math"
	"math/rand/v2"
	"reflect"
	"regexp"
	"slices"
	"strings"
	"testing"

	"loop.example/g00582/impl"
)

func ofTerms(kind int, left string, right string) impl.Constraint {
	return impl.Constraint{Kind: kind, Left: left, Right: right}
}

func ofRegex(kind int, left string, r impl.Regex) impl.Constraint {
	return impl.Constraint{Kind: kind, Left: left, Regex: r}
}

func ofLengths(bound int, coeffs ...int) impl.Constraint {
	return impl.Constraint{Kind: impl.CnLength, Coeffs: coeffs, Bound: bound}
}

// oppositeKinds are written out, so that the tests do not take them from the program.
var oppositeKinds = map[int]int{impl.CnEqual: impl.CnDiffer, impl.CnDiffer: impl.CnEqual, impl.CnIn: impl.CnNotIn, impl.CnNotIn: impl.CnIn}

// The functions from here on are second ways to the results. They take constraints whose expressions are finite.

func isExpression(r impl.Regex) bool {
	nodes, depth := sizeOf(r)
	return hasForms(r) && hasLetters(r) && nodes <= 16 && depth <= 6
}

func hasLetters(r impl.Regex) bool {
	if r.Kind == impl.RxLetter && r.Letter != "a" && r.Letter != "b" && r.Letter != "c" || r.Kind != impl.RxLetter && r.Letter != "" {
		return false
	}
	return !slices.ContainsFunc(r.Args, func(arg impl.Regex) bool { return !hasLetters(arg) })
}

func isValidByFields(c impl.Constraint) bool {
	hasNumbers := len(c.Coeffs) > 0 || c.Bound != 0
	switch c.Kind {
	case 1, 2:
		return isTermByBytes(c.Left) && isTermByBytes(c.Right) && isZero(c.Regex) && !hasNumbers
	case 3, 4:
		return isTermByBytes(c.Left) && c.Right == "" && isExpression(c.Regex) && !hasNumbers
	case 5:
		isOther := func(n int) bool { return n > 9 || n < -9 }
		return c.Left == "" && c.Right == "" && isZero(c.Regex) && len(c.Coeffs) == 3 && !slices.ContainsFunc(c.Coeffs, isOther) && c.Bound < 100 && c.Bound > -100
	}
	return false
}

func areWords(v impl.Values) bool {
	for _, s := range tableOf(v) {
		if len(s) > 30 || strings.Trim(s, "abc") != "" {
			return false
		}
	}
	return true
}

// holdsByTables takes valid constraints.
func holdsByTables(c impl.Constraint, v impl.Values) bool {
	left := appliedByBytes(c.Left, v)
	switch c.Kind {
	case 1:
		return left == appliedByBytes(c.Right, v)
	case 2:
		return left != appliedByBytes(c.Right, v)
	case 3:
		return partsTable(c.Regex, left)[0][len(left)]
	case 4:
		return !partsTable(c.Regex, left)[0][len(left)]
	}
	return c.Coeffs[0]*len(v.X)+c.Coeffs[1]*len(v.Y)+c.Coeffs[2]*len(v.Z)-c.Bound <= 0
}

func varsByFields(c impl.Constraint) string {
	vars := ""
	for i, name := range []string{"X", "Y", "Z"} {
		if strings.Contains(c.Left, name) || strings.Contains(c.Right, name) || len(c.Coeffs) > i && c.Coeffs[i] != 0 {
			vars += name
		}
	}
	return vars
}

// textByKind takes valid constraints.
func textByKind(c impl.Constraint) string {
	term := func(s string) string { return map[bool]string{true: "-", false: s}[s == ""] }
	switch c.Kind {
	case 1:
		return term(c.Left) + " = " + term(c.Right)
	case 2:
		return term(c.Left) + " != " + term(c.Right)
	case 3:
		return term(c.Left) + " in " + textWithoutLimits(c.Regex)
	case 4:
		return term(c.Left) + " out " + textWithoutLimits(c.Regex)
	}
	return fmt.Sprintf("len %d %d %d %d", c.Coeffs[0], c.Coeffs[1], c.Coeffs[2], c.Bound)
}

var (
	termsPattern   = regexp.MustCompile(`^(-|[abcXYZ]{1,12}) (=|!=) (-|[abcXYZ]{1,12})$`)
	regexPattern   = regexp.MustCompile(`^(-|[abcXYZ]{1,12}) (in|out) ([^ ]+)$`)
	lengthsPattern = regexp.MustCompile(`^len (0|-?[1-9]) (0|-?[1-9]) (0|-?[1-9]) (0|-?[1-9][0-9]?)$`)
)

func parsedByPattern(s string) (impl.Constraint, bool) {
	kinds := map[string]int{"=": 1, "!=": 2, "in": 3, "out": 4}
	if parts := termsPattern.FindStringSubmatch(s); parts != nil {
		return ofTerms(kinds[parts[2]], strings.Trim(parts[1], "-"), strings.Trim(parts[3], "-")), true
	}
	if parts := regexPattern.FindStringSubmatch(s); parts != nil {
		if r, ok := impl.ParseRegex(parts[3]); ok {
			return ofRegex(kinds[parts[2]], strings.Trim(parts[1], "-"), r), true
		}
	}
	if lengthsPattern.MatchString(s) {
		var x, y, z, bound int
		fmt.Sscanf(s, "len %d %d %d %d", &x, &y, &z, &bound)
		return ofLengths(bound, x, y, z), true
	}
	return impl.Constraint{}, false
}

// hasSameFields takes a nil slice and an empty one for the same.
func hasSameFields(a impl.Constraint, b impl.Constraint) bool {
	for _, c := range []*impl.Constraint{&a, &b} {
		c.Regex = copyOf(c.Regex)
		c.Coeffs = append([]int{}, c.Coeffs...)
	}
	return reflect.DeepEqual(a, b)
}

// valuesOfWords are those of valuesForTests that are words, and more.
func valuesOfWords() []impl.Values {
	list := []impl.Values{
		{X: "ab", Y: "ab"}, {X: "ab", Y: "ba"}, {Y: "a", Z: "a"}, {X: "c", Z: "c"}, {X: "aa", Y: "a"}, {X: "aab", Y: "b", Z: "aa"},
		{X: strings.Repeat("a", 30)}, {Y: strings.Repeat("b", 30)}, {Z: strings.Repeat("c", 30)},
	}
	for _, v := range valuesForTests() {
		if areWords(v) {
			list = append(list, v)
		}
	}
	return list
}

// valuesOfOthers have words, but also a string that is none, even for a variable that does not occur.
func valuesOfOthers() []impl.Values {
	var list []impl.Values
	for _, other := range slices.Concat(notWords, otherStrings, []string{"X", "Y", "Z", "aX", "XYZ"}) {
		list = append(list, impl.Values{X: other}, impl.Values{Y: other}, impl.Values{Z: other}, impl.Values{X: other, Y: other, Z: other}, impl.Values{X: "a", Y: other, Z: "b"})
	}
	return list
}

// nameOf takes constraints whose expressions are finite.
func nameOf(c impl.Constraint) string {
	return fmt.Sprintf("{%d %.40q %.40q %.200s %.60s %d}", c.Kind, c.Left, c.Right, fmt.Sprint(c.Regex), fmt.Sprint(c.Coeffs), c.Bound)
}

func checkHolds(t *testing.T, c impl.Constraint, v impl.Values, want bool) {
	t.Helper()
	if got := impl.HoldsFor(c, v); got != want {
		t.Errorf("HoldsFor(%s, %.120q) = %v", nameOf(c), v, got)
	}
}

func checkVarsOfConstraint(t *testing.T, c impl.Constraint, want string) {
	t.Helper()
	if got := impl.VarsOfConstraint(c); got != want {
		t.Errorf("VarsOfConstraint(%s) = %q, want %q", nameOf(c), got, want)
	}
}

// checkText expects the constraint for its text, and the other way round.
func checkText(t *testing.T, text string, c impl.Constraint) {
	t.Helper()
	if !impl.IsValidConstraint(c) {
		t.Errorf("IsValidConstraint(%s) = false", nameOf(c))
	}
	if got := impl.FormatConstraint(c); got != text {
		t.Errorf("FormatConstraint(%s) = %q, want %q", nameOf(c), got, text)
	}
	got, ok := impl.ParseConstraint(text)
	if !ok || !hasSameFields(got, c) || !impl.EqualConstraint(got, c) || !impl.EqualConstraint(c, got) {
		t.Errorf("ParseConstraint(%q) = %s, %v", text, nameOf(got), ok)
	}
}

func checkNoText(t *testing.T, s string) {
	t.Helper()
	if c, ok := impl.ParseConstraint(s); ok || !hasSameFields(c, impl.Constraint{}) {
		t.Errorf("ParseConstraint(%.60q) = %s, %v", s, nameOf(c), ok)
	}
}

// checkAnyText compares ParseConstraint with its second way.
func checkAnyText(t *testing.T, s string) {
	t.Helper()
	c, ok := parsedByPattern(s)
	if ok {
		checkText(t, s, c)
	} else {
		checkNoText(t, s)
	}
}

// checkNoConstraint expects what the document says of a constraint that is not valid.
func checkNoConstraint(t *testing.T, c impl.Constraint) {
	t.Helper()
	if impl.IsValidConstraint(c) {
		t.Errorf("IsValidConstraint(%s) = true", nameOf(c))
	}
	if got := impl.FormatConstraint(c); got != "" {
		t.Errorf("FormatConstraint(%s) = %.60q", nameOf(c), got)
	}
	checkVarsOfConstraint(t, c, "")
	for _, v := range []impl.Values{{}, {X: "a"}, {X: "a", Y: "a", Z: "a"}, {X: "ab", Y: "c", Z: "b"}, {X: "#"}} {
		checkHolds(t, c, v, false)
	}
}

// checkAnyConstraint compares the results for one constraint with the second ways.
func checkAnyConstraint(t *testing.T, c impl.Constraint) {
	t.Helper()
	if !isValidByFields(c) {
		checkNoConstraint(t, c)
		return
	}
	checkText(t, textByKind(c), c)
	checkVarsOfConstraint(t, c, varsByFields(c))
}

// checkOpposites expects that a valid constraint holds as the second way says, and that its opposite does if it does not.
func checkOpposites(t *testing.T, c impl.Constraint, v impl.Values) {
	t.Helper()
	want := holdsByTables(c, v)
	checkHolds(t, c, v, want)
	kind, ok := oppositeKinds[c.Kind]
	if !ok {
		return
	}
	other := c
	other.Kind = kind
	if !impl.IsValidConstraint(other) {
		t.Errorf("IsValidConstraint(%s) = false", nameOf(other))
	}
	if impl.HoldsFor(c, v) == impl.HoldsFor(other, v) {
		t.Errorf("HoldsFor of %s and its opposite are both %v for %.120q", nameOf(c), want, v)
	}
}

// examples has a valid constraint of each kind; words for which each of them holds are in exampleValues.
func examples() []impl.Constraint {
	return []impl.Constraint{
		ofTerms(impl.CnEqual, "aX", "Xa"), ofTerms(impl.CnDiffer, "X", "Yb"),
		ofRegex(impl.CnIn, "XY", nodeOf(impl.RxStar, letterOf("a"))), ofRegex(impl.CnNotIn, "X", nodeOf(impl.RxCat, letterOf("b"), leafOf(impl.RxAny))),
		ofLengths(-1, -1, 2, 0),
	}
}

var exampleValues = impl.Values{X: "aaa", Y: "a"}

func TestConstraintConstants(t *testing.T) {
	kinds := []int{impl.CnEqual, impl.CnDiffer, impl.CnIn, impl.CnNotIn, impl.CnLength}
	if !slices.Equal(kinds, []int{1, 2, 3, 4, 5}) || impl.MaxCoeff != 9 {
		t.Errorf("the kinds are %v, MaxCoeff = %d", kinds, impl.MaxCoeff)
	}
}

func TestConstraintTexts(t *testing.T) {
	a, b := letterOf("a"), letterOf("b")
	for text, c := range map[string]impl.Constraint{
		"aX = Xa":  {Kind: impl.CnEqual, Left: "aX", Right: "Xa"},
		"X = Y":    {Kind: impl.CnEqual, Left: "X", Right: "Y"},
		"a = b":    {Kind: impl.CnEqual, Left: "a", Right: "b"},
		"- = -":    {Kind: impl.CnEqual},
		"X = -":    {Kind: impl.CnEqual, Left: "X"},
		"- = XX":   {Kind: impl.CnEqual, Right: "XX"},
		"aX != Xa": {Kind: impl.CnDiffer, Left: "aX", Right: "Xa"},
		"X != -":   {Kind: impl.CnDiffer, Left: "X"},
		"- != bc":  {Kind: impl.CnDiffer, Right: "bc"},
		"- != -":   {Kind: impl.CnDiffer},

		"aaaaaaaaaaaa = XYZXYZXYZXYZ":  {Kind: impl.CnEqual, Left: "aaaaaaaaaaaa", Right: "XYZXYZXYZXYZ"},
		"ZZZZZZZZZZZZ != cbacbacbacba": {Kind: impl.CnDiffer, Left: "ZZZZZZZZZZZZ", Right: "cbacbacbacba"},

		"X in *(ab)":         {Kind: impl.CnIn, Left: "X", Regex: nodeOf(impl.RxStar, nodeOf(impl.RxCat, a, b))},
		"aXY in (a|b)":       {Kind: impl.CnIn, Left: "aXY", Regex: nodeOf(impl.RxOr, a, b)},
		"- in 1":             {Kind: impl.CnIn, Regex: leafOf(impl.RxEmpty)},
		"- in .":             {Kind: impl.CnIn, Regex: leafOf(impl.RxAny)},
		"aX out 1":           {Kind: impl.CnNotIn, Left: "aX", Regex: leafOf(impl.RxEmpty)},
		"- out 0":            {Kind: impl.CnNotIn, Regex: leafOf(impl.RxNone)},
		"Z out !(a&b)":       {Kind: impl.CnNotIn, Left: "Z", Regex: nodeOf(impl.RxNot, nodeOf(impl.RxAnd, a, b))},
		"XYZXYZXYZXYZ out c": {Kind: impl.CnNotIn, Left: "XYZXYZXYZXYZ", Regex: letterOf("c")},

		"len 1 -1 0 -3":    {Kind: impl.CnLength, Coeffs: []int{1, -1, 0}, Bound: -3},
		"len 0 0 0 0":      {Kind: impl.CnLength, Coeffs: []int{0, 0, 0}},
		"len 9 9 9 99":     {Kind: impl.CnLength, Coeffs: []int{9, 9, 9}, Bound: 99},
		"len -9 -9 -9 -99": {Kind: impl.CnLength, Coeffs: []int{-9, -9, -9}, Bound: -99},
		"len 1 2 3 4":      {Kind: impl.CnLength, Coeffs: []int{1, 2, 3}, Bound: 4},
		"len 0 0 -7 10":    {Kind: impl.CnLength, Coeffs: []int{0, 0, -7}, Bound: 10},
	} {
		checkText(t, text, c)
		checkAnyConstraint(t, c)
		checkAnyText(t, text)
	}
}

// termExamples are terms of all lengths up to 12.
func termExamples() []string {
	list := append(stringsOver("aXZ", 2), "abc", "XYZ", "ZaYbXc", "aaaaaaaaaaa", "XXXXXXXXXXXX", "abcXYZabcXYZ", "ZZZZZZZZZZZa")
	for n := range 13 {
		list = append(list, strings.Repeat("bY", 6)[:n])
	}
	return list
}

// noTerms are too long or hold other bytes.
func noTerms() []string {
	list := slices.Concat(mixedStrings(), []string{
		"aaaaaaaaaaaaa", "XXXXXXXXXXXXX", "abcXYZabcXYZX", "aX ", " aX", "a X", "X=a", "-", "--", "-X", "X-", "=", "!=", "in", "len", "aaaaaaaaaaaa#", "*a", "(ab)",
		strings.Repeat("a", 31), strings.Repeat("X", 1<<20),
	})
	for i := range 256 {
		if s := string([]byte{byte(i)}); !strings.Contains("abcXYZ", s) {
			list = append(list, s, "aX"+s)
		}
	}
	return list
}

func TestConstraintsOfTerms(t *testing.T) {
	for _, left := range termExamples() {
		for _, right := range termExamples() {
			checkAnyConstraint(t, ofTerms(impl.CnEqual, left, right))
			checkAnyConstraint(t, ofTerms(impl.CnDiffer, left, right))
		}
		for _, r := range []impl.Regex{letterOf("b"), leafOf(impl.RxNone), nodeOf(impl.RxStar, letterOf("a"))} {
			checkAnyConstraint(t, ofRegex(impl.CnIn, left, r))
			checkAnyConstraint(t, ofRegex(impl.CnNotIn, left, r))
		}
	}
}

func TestConstraintsOfStringsThatAreNoTerms(t *testing.T) {
	for _, other := range noTerms() {
		for _, kind := range []int{impl.CnEqual, impl.CnDiffer} {
			for _, term := range []string{"", "a", "X", "aXYZ", "abcXYZabcXYZ"} {
				checkNoConstraint(t, ofTerms(kind, other, term))
				checkNoConstraint(t, ofTerms(kind, term, other))
			}
			checkNoConstraint(t, ofTerms(kind, other, other))
		}
		for _, text := range []string{"0", "1", "!0", "*."} {
			checkNoConstraint(t, ofRegex(impl.CnIn, other, parsed(t, text)))
			checkNoConstraint(t, ofRegex(impl.CnNotIn, other, parsed(t, text)))
		}
	}
}

func TestConstraintsOfExpressions(t *testing.T) {
	var list []impl.Regex
	for _, e := range expressionsUpTo(4) {
		list = append(list, e.regex)
	}
	for depth := 1; depth <= 8; depth++ {
		for nodes := depth; nodes <= min(18, 1<<depth-1); nodes++ {
			list = append(list, expressionOf(nodes, depth, false, true), expressionOf(nodes, depth, true, false))
		}
	}
	for depth := 1; depth <= 9; depth++ {
		list = append(list, starsAround(depth-1, letterOf("a")))
	}
	list = append(list, doubled(3, letterOf("a")), starsAround(1, doubled(3, letterOf("a"))), starsAround(2, doubled(3, letterOf("a"))), doubled(4, letterOf("a")))
	for _, r := range list {
		for _, left := range []string{"", "X", "aXYb"} {
			checkAnyConstraint(t, ofRegex(impl.CnIn, left, r))
			checkAnyConstraint(t, ofRegex(impl.CnNotIn, left, r))
		}
	}
	checkNoConstraint(t, ofRegex(impl.CnIn, "X", starsAround(6, letterOf("a"))))
	checkNoConstraint(t, ofRegex(impl.CnNotIn, "X", doubled(4, letterOf("a"))))
}

func TestConstraintsOfInvalidExpressions(t *testing.T) {
	for _, r := range invalidNodes() {
		for _, other := range []impl.Regex{r, nodeOf(impl.RxStar, r), nodeOf(impl.RxOr, leafOf(impl.RxAny), r)} {
			for _, left := range []string{"", "a", "X", "aXYZ"} {
				checkNoConstraint(t, ofRegex(impl.CnIn, left, other))
				checkNoConstraint(t, ofRegex(impl.CnNotIn, left, other))
			}
		}
	}
	withoutTakingLong(t, func() {
		for _, r := range []impl.Regex{starsAround(1000000, letterOf("a")), doubled(64, leafOf(impl.RxAny)), ringOf(impl.RxStar), ringOf(impl.RxNot, impl.RxStar), ringOf(0)} {
			for kind := 1; kind <= 5; kind++ {
				c := ofRegex(kind, "", r)
				if impl.IsValidConstraint(c) || impl.HoldsFor(c, impl.Values{}) || impl.VarsOfConstraint(c) != "" || impl.FormatConstraint(c) != "" {
					t.Errorf("a very large expression is accepted for the Kind %d", kind)
				}
				if !impl.EqualConstraint(c, c) || impl.EqualConstraint(c, ofRegex(kind, "", leafOf(impl.RxAny))) {
					t.Errorf("EqualConstraint with a very large expression is wrong for the Kind %d", kind)
				}
			}
		}
	})
}

// farNumbers are beyond all limits; their low bits, products and opposites may be within.
var farNumbers = []int{128, -128, 256, 257, -255, 1 << 16, 1<<32 + 1, -1 << 32, 1<<32 - 1, math.MaxInt, math.MinInt, math.MinInt + 1, math.MaxInt32, math.MinInt32}

func TestConstraintsOfLengths(t *testing.T) {
	for n := -200; n <= 200; n++ {
		checkAnyConstraint(t, ofLengths(n, 1, -1, 0))
		checkAnyConstraint(t, ofLengths(n, 0, 0, 0))
		checkAnyConstraint(t, ofLengths(0, n, 0, 0))
		checkAnyConstraint(t, ofLengths(99, 9, n, -9))
		checkAnyConstraint(t, ofLengths(-99, -9, 9, n))
		checkAnyConstraint(t, ofLengths(n, n, n, n))
	}
	for x := -10; x <= 10; x++ {
		for y := -10; y <= 10; y++ {
			for _, z := range []int{-10, -9, 0, 5, 9, 10} {
				checkAnyConstraint(t, ofLengths(x-10*y, x, y, z))
			}
		}
	}
	for _, n := range farNumbers {
		for _, c := range []impl.Constraint{ofLengths(n, 1, 2, 3), ofLengths(0, n, 0, 0), ofLengths(0, 0, n, 0), ofLengths(0, 0, 0, n), ofLengths(n, n, n, n)} {
			checkNoConstraint(t, c)
		}
	}
	for _, bound := range []int{-99, 99} {
		checkText(t, fmt.Sprint("len 0 1 0 ", bound), ofLengths(bound, 0, 1, 0))
	}
	for _, bound := range []int{-100, 100} {
		checkNoConstraint(t, ofLengths(bound, 0, 1, 0))
	}
}

func TestConstraintsOfOtherNumbersOfCoeffs(t *testing.T) {
	for n := range 12 {
		for _, coeff := range []int{0, 1, -1, 9, -9, 10, -10} {
			for _, bound := range []int{0, 1, -99, 99, 100} {
				c := ofLengths(bound, slices.Repeat([]int{coeff}, n)...)
				checkAnyConstraint(t, c)
				if n != 3 {
					checkNoConstraint(t, c)
				}
			}
		}
	}
	checkNoConstraint(t, impl.Constraint{Kind: impl.CnLength})
	checkNoConstraint(t, ofLengths(5, make([]int, 1<<20)...))
	// Elements that are unused do not count.
	checkText(t, "len 1 2 3 4", ofLengths(4, []int{1, 2, 3, 77, 78}[:3]...))
	checkNoConstraint(t, ofLengths(4, []int{1, 2, 3}[:2]...))
}

// otherFields has for each kind changes of fields that its form does not mention.
func otherFields(kind int) map[string]func(c *impl.Constraint) {
	star := nodeOf(impl.RxStar, letterOf("a"))
	fields := map[string]func(c *impl.Constraint){
		"Left":           func(c *impl.Constraint) { c.Left = "X" },
		"Left a":         func(c *impl.Constraint) { c.Left = "a" },
		"Right":          func(c *impl.Constraint) { c.Right = "Y" },
		"Right a":        func(c *impl.Constraint) { c.Right = "a" },
		"Right -":        func(c *impl.Constraint) { c.Right = "-" },
		"Regex":          func(c *impl.Constraint) { c.Regex = star },
		"Regex 0":        func(c *impl.Constraint) { c.Regex = leafOf(impl.RxNone) },
		"Regex Kind":     func(c *impl.Constraint) { c.Regex.Kind = -1 },
		"Regex Letter":   func(c *impl.Constraint) { c.Regex.Letter = "a" },
		"Regex Args":     func(c *impl.Constraint) { c.Regex.Args = []impl.Regex{{}} },
		"Coeffs":         func(c *impl.Constraint) { c.Coeffs = []int{1, 2, 3} },
		"Coeffs 0":       func(c *impl.Constraint) { c.Coeffs = []int{0} },
		"Coeffs 0 0 0":   func(c *impl.Constraint) { c.Coeffs = []int{0, 0, 0} },
		"Coeffs 0 0 0 0": func(c *impl.Constraint) { c.Coeffs = []int{0, 0, 0, 0} },
		"Bound 1":        func(c *impl.Constraint) { c.Bound = 1 },
		"Bound -1":       func(c *impl.Constraint) { c.Bound = -1 },
		"Bound far":      func(c *impl.Constraint) { c.Bound = 1 << 32 },
	}
	mentioned := map[int][]string{1: {"Left", "Right"}, 2: {"Left", "Right"}, 3: {"Left", "Regex"}, 4: {"Left", "Regex"}, 5: {"Coeffs", "Bound"}}
	for name := range fields {
		if field, _, _ := strings.Cut(name, " "); slices.Contains(mentioned[kind], field) {
			delete(fields, name)
		}
	}
	return fields
}

func TestConstraintFieldsThatAreNotMentioned(t *testing.T) {
	withoutLetters := []impl.Constraint{
		ofTerms(impl.CnEqual, "", ""), ofTerms(impl.CnDiffer, "", ""), ofRegex(impl.CnIn, "", leafOf(impl.RxEmpty)), ofRegex(impl.CnNotIn, "", leafOf(impl.RxAny)), ofLengths(0, 0, 0, 0),
	}
	for _, c := range append(examples(), withoutLetters...) {
		text := textByKind(c)
		checkText(t, text, c)
		fields := otherFields(c.Kind)
		if want := map[int]int{1: 12, 2: 12, 3: 10, 4: 10, 5: 10}[c.Kind]; len(fields) != want {
			t.Errorf("%d fields are tested for the Kind %d, want %d", len(fields), c.Kind, want)
		}
		for _, change := range fields {
			other := c
			change(&other)
			checkNoConstraint(t, other)
			checkAnyConstraint(t, other)
		}
	}
}

// A slice that is there and empty is zero.
func TestConstraintFieldsThatAreEmpty(t *testing.T) {
	for _, c := range examples() {
		with := c
		if c.Kind != impl.CnLength {
			with.Coeffs = []int{}
		}
		if isZero(c.Regex) {
			with.Regex.Args = []impl.Regex{}
		}
		checkText(t, textByKind(c), with)
		checkAnyConstraint(t, with)
		checkHolds(t, with, exampleValues, true)
		with.Regex = copyOf(with.Regex)
		checkText(t, textByKind(c), with)
		if !impl.EqualConstraint(c, with) || !impl.EqualConstraint(with, c) {
			t.Errorf("EqualConstraint of %s with and without empty slices = false", nameOf(c))
		}
	}
	with, without := impl.Constraint{Kind: impl.CnLength, Coeffs: []int{}}, impl.Constraint{Kind: impl.CnLength}
	checkNoConstraint(t, with)
	checkNoConstraint(t, impl.Constraint{Coeffs: []int{}, Regex: impl.Regex{Args: []impl.Regex{}}})
	if !impl.EqualConstraint(with, without) || !impl.EqualConstraint(without, with) {
		t.Error("EqualConstraint with and without a slice of Coeffs = false")
	}
}

func TestConstraintsOfOtherKinds(t *testing.T) {
	kinds := append([]int{0, 6, -1, -2, -3, -4, -5, 7, 8, 9, 10, 100, 1<<32 + impl.CnEqual, 256 + impl.CnIn, -1<<32 + impl.CnLength}, farNumbers...)
	for _, kind := range kinds {
		checkNoConstraint(t, impl.Constraint{Kind: kind})
		for _, c := range examples() {
			c.Kind = kind
			checkNoConstraint(t, c)
		}
	}
	// Each kind asks for its own form.
	for _, c := range examples() {
		for kind := 1; kind <= 5; kind++ {
			other := c
			other.Kind = kind
			if kind == c.Kind || kind == oppositeKinds[c.Kind] {
				checkText(t, textByKind(other), other)
			} else {
				checkNoConstraint(t, other)
			}
		}
	}
}

func TestHoldsFor(t *testing.T) {
	v := impl.Values{X: "ab", Y: "b", Z: "aab"}
	for text, want := range map[string]bool{
		"X = ab": true, "X = ba": false, "aX = Z": true, "aX = Y": false, "X = X": true, "X = Y": false, "XY = abb": true, "XY = YX": false, "aY = X": true, "- = -": true,
		"X = -": false, "- = X": false, "a = a": true, "a = b": false, "aab = Z": true, "ZY = aXY": true, "ZYX = XYZ": false, "X = abb": false, "X = a": false,
		"X != ab": false, "X != ba": true, "aX != Z": false, "aX != Y": true, "X != X": false, "- != -": false, "X != -": true, "- != X": true, "a != b": true, "XY != YX": true,

		"X in (ab)": true, "X in *(ab)": true, "XX in *(ab)": true, "XY in *(ab)": false, "X in 1": false, "- in 1": true, "- in *a": true, "- in 0": false, "- in .": false,
		"Y in .": true, "Y in b": true, "Y in a": false, "Z in (a(ab))": true, "XaY in (..)": false, "aXb in (a(*.b))": true, "X in !(ab)": false, "a in a": true, "c in (a|b)": false,
		"X out (ab)": false, "X out *(ab)": false, "XY out *(ab)": true, "X out 1": true, "- out 1": false, "- out 0": true, "Y out a": true, "X out 0": true, "aX out !0": false,

		"len 1 0 0 2": true, "len 1 0 0 1": false, "len 1 1 1 6": true, "len 1 1 1 5": false, "len -1 0 0 -2": true, "len -1 0 0 -3": false, "len 0 0 0 0": true, "len 0 0 0 -1": false,
		"len 0 0 0 99": true, "len 1 -1 0 1": true, "len 1 -1 0 0": false, "len -1 0 1 1": true, "len -1 0 1 0": false, "len 0 9 0 9": true, "len 0 9 0 8": false, "len 9 9 9 54": true, "len 9 9 9 53": false,
		"len -9 -9 -9 -54": true, "len -9 -9 -9 -55": false, "len 3 -9 1 0": true, "len 3 -9 1 -1": false, "len 2 3 -5 -8": true, "len 2 3 -5 -9": false, "len 1 2 3 99": true,
	} {
		c, ok := impl.ParseConstraint(text)
		if !ok {
			t.Errorf("ParseConstraint(%q) is not accepted", text)
		}
		checkHolds(t, c, v, want)
	}
	for _, c := range examples() {
		checkHolds(t, c, exampleValues, true)
	}
}

func TestHoldsForValuesThatAreNoWords(t *testing.T) {
	constraints := append(examples(), ofTerms(impl.CnEqual, "", ""), ofTerms(impl.CnEqual, "X", "X"), ofTerms(impl.CnDiffer, "a", "b"), ofTerms(impl.CnDiffer, "X", "aX"), ofTerms(impl.CnDiffer, "Y", "Yb"),
		ofRegex(impl.CnIn, "", leafOf(impl.RxEmpty)), ofRegex(impl.CnIn, "XYZ", parsed(t, "!0")), ofRegex(impl.CnNotIn, "XYZ", leafOf(impl.RxNone)), ofRegex(impl.CnNotIn, "a", letterOf("b")),
		ofLengths(99, 0, 0, 0), ofLengths(99, -9, -9, -9), ofLengths(0, 0, 0, 0))
	for _, c := range constraints {
		if !impl.IsValidConstraint(c) || !impl.HoldsFor(c, exampleValues) {
			t.Errorf("%s does not hold", nameOf(c))
		}
		for _, v := range valuesOfOthers() {
			checkHolds(t, c, v, false)
		}
		for _, v := range valuesForTests() {
			if !areWords(v) {
				checkHolds(t, c, v, false)
			}
		}
	}
}

func TestHoldsForConstraintsThatAreNotValid(t *testing.T) {
	long := strings.Repeat("a", 13)
	for _, c := range []impl.Constraint{
		{}, {Kind: 6}, {Kind: -1},
		ofTerms(impl.CnEqual, long, long), ofTerms(impl.CnEqual, "#", "#"), ofTerms(impl.CnEqual, "-", "-"), ofTerms(impl.CnDiffer, long, "a"), ofTerms(impl.CnDiffer, "X", "d"),
		ofRegex(impl.CnIn, long, parsed(t, "!0")), ofRegex(impl.CnIn, "-", parsed(t, "!0")), ofRegex(impl.CnIn, "a", impl.Regex{}), ofRegex(impl.CnNotIn, "a", impl.Regex{}),
		ofRegex(impl.CnNotIn, long, leafOf(impl.RxNone)), ofRegex(impl.CnNotIn, "d", leafOf(impl.RxAny)),
		ofRegex(impl.CnNotIn, "X", starsAround(6, letterOf("b"))), ofRegex(impl.CnIn, "", starsAround(6, letterOf("b"))),
		ofLengths(0), ofLengths(99, 0, 0), ofLengths(99, 0, 0, 0, 0), ofLengths(99, -10, 0, 0), ofLengths(100, 0, 0, 0), ofLengths(-100, -9, -9, -9), {Kind: impl.CnLength, Bound: 99},
		{Kind: impl.CnEqual, Bound: 1}, {Kind: impl.CnEqual, Left: "a", Right: "a", Coeffs: []int{0, 0, 0}}, {Kind: impl.CnIn, Left: "a", Right: "a", Regex: letterOf("a")},
	} {
		checkNoConstraint(t, c)
		for _, v := range append(valuesOfWords(), impl.Values{X: "d"}) {
			checkHolds(t, c, v, false)
		}
	}
}

// The words of these terms have more than MaxWord letters.
func TestHoldsForLongWords(t *testing.T) {
	a, twelve := strings.Repeat("a", 30), strings.Repeat("X", 12)
	for _, c := range []struct {
		left, right string
		v           impl.Values
		want        bool
	}{
		{"aX", "Xa", impl.Values{X: a}, true}, {"bX", "Xb", impl.Values{X: a}, false}, {"aX", "bX", impl.Values{X: a}, false}, {"Xa", "Xb", impl.Values{X: a}, false},
		{"XX", "XY", impl.Values{X: a, Y: a}, true}, {"XX", "XY", impl.Values{X: a, Y: a[1:]}, false}, {"XX", "XY", impl.Values{X: a, Y: a[1:] + "b"}, false},
		{"XY", "YX", impl.Values{X: a, Y: a[:7]}, true}, {"XY", "YX", impl.Values{X: a, Y: "c"}, false}, {"Xb", "Y", impl.Values{X: a, Y: a}, false},
		{twelve, twelve, impl.Values{X: a}, true}, {twelve, strings.Repeat("XY", 6), impl.Values{X: a, Y: a}, true}, {twelve, strings.Repeat("X", 11) + "Y", impl.Values{X: a, Y: a[1:] + "c"}, false},
		{strings.Repeat("XY", 6), strings.Repeat("YX", 6), impl.Values{X: a, Y: a[1:]}, true}, {"XYXYXYZZ", "XYXYXYZZ", impl.Values{X: a, Y: a, Z: "b"}, true},
	} {
		checkHolds(t, ofTerms(impl.CnEqual, c.left, c.right), c.v, c.want)
		checkHolds(t, ofTerms(impl.CnDiffer, c.left, c.right), c.v, !c.want)
	}
	for text, unit := range map[string]int{"*a": 1, "*.": 1, "*(aa)": 2, "*(a(a.))": 3, "*((aa)(.a))": 4, "*((a(a.))((.a)(aa)))": 7} {
		r := parsed(t, text)
		for _, left := range []string{"Xa", "aXa", "XX", "XXa", "XXY", "aXYXYa", "YYYYYYYYYYYY", "XXXXXXXXXXXa", twelve} {
			v := impl.Values{X: a, Y: a[:11]}
			n := len(appliedByBytes(left, v))
			checkHolds(t, ofRegex(impl.CnIn, left, r), v, n%unit == 0)
			checkHolds(t, ofRegex(impl.CnNotIn, left, r), v, n%unit != 0)
			checkHolds(t, ofRegex(impl.CnIn, left, nodeOf(impl.RxNot, r)), v, n%unit != 0)
		}
	}
	for _, text := range acceptingAll {
		checkHolds(t, ofRegex(impl.CnIn, "aX", parsed(t, text)), impl.Values{X: a}, true)
		checkHolds(t, ofRegex(impl.CnNotIn, "aX", parsed(t, text)), impl.Values{X: a}, false)
		checkHolds(t, ofRegex(impl.CnIn, twelve, parsed(t, text)), impl.Values{X: strings.Repeat("bca", 10)}, true)
	}
	checkHolds(t, ofRegex(impl.CnIn, "Xb", parsed(t, "(*ab)")), impl.Values{X: a}, true)
	checkHolds(t, ofRegex(impl.CnIn, "XbX", parsed(t, "(*ab)")), impl.Values{X: a}, false)
	checkHolds(t, ofRegex(impl.CnNotIn, "XbX", parsed(t, "(*ab)")), impl.Values{X: a}, true)
}

// In these expressions, a word can be divided in very many ways.
func TestHoldsForLongWordsDoesNotTakeLong(t *testing.T) {
	v := impl.Values{X: strings.Repeat("a", 30), Y: strings.Repeat("abc", 10)}
	withoutTakingLong(t, func() {
		for text, want := range map[string]bool{
			"*****a": true, "*(*(a.)|*(.a))": true, "((*.*.)((*.*.)(*.b)))": false, "*(*(*a*a)*a)": true, "!((*!a*!a)(*!b*!b))": false, "*(*.&*(*.&*.))": true, "(*(*a*a)b)": false,
		} {
			r, _ := impl.ParseRegex(text)
			checkHolds(t, ofRegex(impl.CnIn, "XXXXXXXXXXXX", r), v, want)
			checkHolds(t, ofRegex(impl.CnNotIn, "XXXXXXXXXXXX", r), v, !want)
		}
		for _, r := range expressionsOfSize(30, 16, 6) {
			c := ofRegex(impl.CnIn, "XYXYXYXYXYXY", r)
			other := ofRegex(impl.CnNotIn, "XYXYXYXYXYXY", r)
			if impl.HoldsFor(c, v) == impl.HoldsFor(other, v) {
				t.Errorf("HoldsFor of %s and its opposite are equal", nameOf(c))
			}
		}
	})
}

func TestHoldsForLengths(t *testing.T) {
	words := []string{"", "a", "cb", strings.Repeat("b", 10), strings.Repeat("abc", 10)}
	coeffs := []int{-9, -1, 0, 2, 9}
	for _, x := range words {
		for _, y := range words {
			for _, z := range words {
				v := impl.Values{X: x, Y: y, Z: z}
				for _, i := range coeffs {
					for _, j := range coeffs {
						for _, k := range coeffs {
							sum := i*len(x) + j*len(y) + k*len(z)
							for _, bound := range []int{sum, sum - 1, sum + 1, -99, 0, 99} {
								if bound >= -99 && bound <= 99 {
									checkHolds(t, ofLengths(bound, i, j, k), v, sum <= bound)
								}
							}
						}
					}
				}
			}
		}
	}
	longest := strings.Repeat("c", 30)
	checkHolds(t, ofLengths(99, 9, 9, 9), impl.Values{X: longest, Y: longest, Z: longest}, false)
	checkHolds(t, ofLengths(-99, -9, -9, -9), impl.Values{X: longest, Y: longest, Z: longest}, true)
	checkHolds(t, ofLengths(0, 9, -9, 0), impl.Values{X: longest, Y: longest}, true)
}

func TestExactlyOneOfTwoOppositesHolds(t *testing.T) {
	terms, values := append(stringsOver("aXYZ", 2), "abc", "XXY", "aXbYcZ", "XYZXYZXYZXYZ"), valuesOfWords()
	for _, left := range terms {
		for _, right := range terms {
			for _, v := range values {
				checkOpposites(t, ofTerms(impl.CnEqual, left, right), v)
				checkOpposites(t, ofTerms(impl.CnDiffer, left, right), v)
			}
		}
	}
	for _, e := range expressionsUpTo(3) {
		for _, left := range []string{"", "a", "X", "Yb", "XZ", "aXY"} {
			for _, v := range values {
				if len(appliedByBytes(left, v)) <= 6 {
					checkOpposites(t, ofRegex(impl.CnIn, left, e.regex), v)
					checkOpposites(t, ofRegex(impl.CnNotIn, left, e.regex), v)
				}
			}
		}
	}
	for nodes := 6; nodes <= 16; nodes++ {
		for _, r := range expressionsOfSize(8, nodes, min(6, nodes-2)) {
			for _, v := range values {
				checkOpposites(t, ofRegex(impl.CnIn, "XbY", r), v)
			}
		}
	}
}

func TestVarsOfConstraint(t *testing.T) {
	for text, want := range map[string]string{
		// Of both terms, in any order and more than once.
		"- = -": "", "a = b": "", "abc != -": "", "X = a": "X", "a = X": "X", "X = X": "X", "aY = Ya": "Y", "- = Z": "Z", "Z != -": "Z", "X = Y": "XY", "Y = X": "XY", "Z = X": "XZ", "ZZ != YY": "YZ",
		"XYZ = a": "XYZ", "a = ZYX": "XYZ", "ZX = Y": "XYZ", "Y != ZX": "XYZ", "aZbX = XcZ": "XZ", "ZZZZZZYXXXXX = abc": "XYZ", "XX = YY": "XY", "Y = YX": "XY",
		// Of the term alone, not of the expression.
		"- in .": "", "abc in *a": "", "X in (a|b)": "X", "aYaY in 1": "Y", "ZX in 0": "XZ", "ZYX in !0": "XYZ", "- out 0": "", "c out c": "", "Z out *a": "Z", "YXY out .": "XY",
		// With a Coeff other than 0.
		"len 0 0 0 0": "", "len 0 0 0 99": "", "len 0 0 0 -99": "", "len 1 0 0 0": "X", "len -1 0 0 0": "X", "len 0 9 0 5": "Y", "len 0 -9 0 5": "Y", "len 0 0 1 -5": "Z", "len 0 0 -2 0": "Z",
		"len 1 1 0 0": "XY", "len 1 -1 0 0": "XY", "len -3 0 3 1": "XZ", "len 0 4 -4 1": "YZ", "len 1 2 3 4": "XYZ", "len -1 -2 -3 -4": "XYZ",
	} {
		c, ok := impl.ParseConstraint(text)
		if !ok {
			t.Errorf("ParseConstraint(%q) is not accepted", text)
		}
		checkVarsOfConstraint(t, c, want)
	}
	for _, c := range []impl.Constraint{
		{}, {Left: "X"}, {Kind: 6, Left: "XYZ"}, ofTerms(impl.CnEqual, "X#", "Y"), ofTerms(impl.CnEqual, "X", strings.Repeat("Y", 13)), ofTerms(impl.CnDiffer, strings.Repeat("Z", 13), ""),
		ofRegex(impl.CnIn, "X", impl.Regex{}), ofRegex(impl.CnNotIn, "Xd", letterOf("a")), {Kind: impl.CnIn, Left: "X", Right: "Y", Regex: letterOf("a")},
		ofLengths(0, 1, 1), ofLengths(0, 1, 1, 1, 1), ofLengths(0, 1, 10, 0), ofLengths(100, 1, 0, 0), {Kind: impl.CnLength, Left: "X", Coeffs: []int{0, 1, 0}},
		{Kind: impl.CnEqual, Left: "X", Coeffs: []int{0, 1, 0}}, {Kind: impl.CnEqual, Left: "X", Bound: 1}, {Kind: impl.CnDiffer, Left: "X", Regex: letterOf("a")},
	} {
		checkNoConstraint(t, c)
	}
}

func TestParseConstraintOfEveryListOfParts(t *testing.T) {
	parts := []string{"", "-", "X", "ab", "=", "!=", "in", "out", "len", "0", "1", "-9", "(ab)"}
	lists := [][]string{nil}
	for n := 1; n <= 5; n++ {
		var longer [][]string
		for _, list := range lists {
			for _, part := range parts {
				next := append(slices.Clone(list), part)
				longer = append(longer, next)
				// There are too many lists of five parts to try them all.
				if n < 5 || next[0] == "len" || part == "1" {
					checkAnyText(t, strings.Join(next, " "))
				}
			}
		}
		lists = longer
	}
}

// textsForTests are texts of valid constraints with signs, terms, expressions and numbers of all forms.
var textsForTests = []string{
	"aX = Xa", "- = -", "X = -", "- = Y", "X != -", "aYb != ZcX", "- != a", "abcXYZabcXYZ = ZZZZZZZZZZZZ", "abcXYZabcXYZ != ZZZZZZZZZZZZ",
	"X in *(ab)", "- in 1", "aX out 1", "- out (.|!b)", "XYZ in ((*a|!b)&(.(0|1)))", "abcXYZabcXYZ out *(((a|b)|(a|b))|((a|b)|(a|b)))",
	"len 1 -1 0 -3", "len 0 0 0 0", "len -9 -9 -9 -99", "len 9 9 9 99", "len 0 -5 5 10",
}

func TestParseConstraintOfChangedTexts(t *testing.T) {
	for _, text := range textsForTests {
		checkAnyText(t, text)
		if _, ok := impl.ParseConstraint(text); !ok {
			t.Errorf("ParseConstraint(%q) is not accepted", text)
		}
		for i := range len(text) + 1 {
			for b := range 256 {
				other := string([]byte{byte(b)})
				checkAnyText(t, text[:i]+other+text[i:])
				if i < len(text) {
					checkAnyText(t, text[:i]+other+text[i+1:])
				}
			}
		}
	}
}

func TestParseConstraintOfTextsThatAreCutOff(t *testing.T) {
	for _, text := range textsForTests {
		for i := range len(text) {
			checkAnyText(t, text[:i])
			checkAnyText(t, text[i+1:])
			checkAnyText(t, text[:i]+text[i+1:])
		}
	}
	for _, text := range []string{"aX = Xa", "X in *(ab)", "aX out 1", "X != -", "len 1 2 3 4"} {
		last := strings.LastIndex(text, " ")
		for i := range last + 2 {
			checkNoText(t, text[:i])
		}
	}
	for _, text := range []string{"X in *(ab)", "- out (.|!b)", "X in ((*a|!b)&(.(0|1)))", "len 1 2 3 -4"} {
		checkText(t, text, parsedConstraint(t, text))
		checkNoText(t, text[:len(text)-1])
	}
}

func parsedConstraint(t *testing.T, text string) impl.Constraint {
	t.Helper()
	c, ok := parsedByPattern(text)
	if !ok {
		t.Fatalf("%q is no text of a constraint", text)
	}
	return c
}

func TestParseConstraintOfOtherBlanks(t *testing.T) {
	for _, text := range textsForTests {
		for _, blank := range []string{" ", "  ", "\t", "\n", "\r", "\v", "\x00", "\u00a0", "\u2003", "\u3000"} {
			checkNoText(t, blank+text)
			checkNoText(t, text+blank)
			for i := range len(text) {
				// One blank too many, or another byte beside it or in its place,
				if text[i] == ' ' {
					checkNoText(t, text[:i]+blank+text[i:])
					checkNoText(t, text[:i+1]+blank+text[i+1:])
					if blank != " " {
						checkNoText(t, text[:i]+blank+text[i+1:])
					}
				}
				// or one where there is none.
				checkNoText(t, text[:i]+blank+text[i:])
			}
		}
		for i := range len(text) {
			// One blank too few.
			if text[i] == ' ' {
				checkNoText(t, text[:i]+text[i+1:])
			}
		}
		checkNoText(t, strings.ReplaceAll(text, " ", ""))
		checkNoText(t, strings.ReplaceAll(text, " ", "  "))
	}
}

func TestParseConstraintOfOtherSigns(t *testing.T) {
	for _, sign := range []string{
		"", "==", "!", "=!", "<>", "<", "<=", "~", ":", ":=", "/=", "!==", "=\n", "\u2260", "eq", "is", "IN", "In", "iN", "i", "n", "inn", "on", "not", "notin", "!in", "OUT", "Out", "ou", "outt", "ni",
		"len", "Len", "LEN", "le", "lenn", "length", "X", "-", "a", "0", "1", "9", ".", "\xff", "i\xff", "\u00ed",
	} {
		for _, left := range []string{"-", "X", "aXY"} {
			for _, right := range []string{"-", "a", "X", "1", "*a", "(ab)", "0"} {
				checkNoText(t, left+" "+sign+" "+right)
			}
		}
		checkNoText(t, sign)
		if sign != "len" {
			checkNoText(t, sign+" 1 2 3 4")
		}
	}
	for _, text := range []string{
		"=", "!=", "in", "out", "len", " = ", " != ", " in ", " out ", "= X Y", "X Y =", "in X 1", "X 1 in", "out X 1", "X = in 1", "X len 1 2 3",
		"1 2 3 4 len", "1 len 2 3 4", "len len 1 2 3 4", "X = Y = Z", "X = Y in 1", "X in 1 = Y",
	} {
		checkNoText(t, text)
	}
	// A sign asks for its own right side.
	for _, text := range []string{
		"X = 1", "X = *a", "X = (ab)", "X != 0", "X != !a", "X != .", "X in X", "X in -", "- in -", "X in aX", "X out Y", "- out -", "a out ab",
		"= 1 2 3 4", "in 1 2 3 4", "X in 1 2 3", "= = =", "- - -", "in in in", "len len len len len",
	} {
		checkNoText(t, text)
	}
}

func TestParseConstraintOfOtherTerms(t *testing.T) {
	others := append(noTerms(), "-a", "a-", "-X", "X-", "--", "---", "a-b", "X-Y", "- -", "d", "x", "#", "aX#", "\u2212", "\"\"", "''")
	for _, other := range others {
		if other == "-" {
			continue
		}
		for _, sign := range []string{"=", "!="} {
			for _, term := range []string{"-", "X", "ab"} {
				checkNoText(t, other+" "+sign+" "+term)
				checkNoText(t, term+" "+sign+" "+other)
			}
			checkNoText(t, other+" "+sign+" "+other)
		}
		for _, right := range []string{"in 1", "in !0", "out 0", "out *a"} {
			checkNoText(t, other+" "+right)
		}
	}
	// An empty term is written as "-", and not left out.
	for _, text := range []string{" = ", " = X", "X = ", "= X", "X =", " != ", " != -", "- != ", " in 1", " out 1", "in 1", "out 0", " in ", "- in ", "- out "} {
		checkNoText(t, text)
	}
}

func TestParseConstraintOfOtherExpressions(t *testing.T) {
	others := []string{
		"", "-", "X", "d", "(", ")", "()", "ab", "(a", "a)", "(a)", "(ab", "ab)", "(abc)", "(a|b|c)", "a|b", "a&b", "a*", "(ab)*", "(a||b)", "(a|b))", "((a|b)", "*", "!", "*!", "a!", "2", "?", "+", "[ab]", "(a,b)",
		"\xff", "a\xff", "(a\xffb)", "\u00e9", "(a b)", "(a |b)", "( ab)", "(ab )", "* a", "! 0", "******a", "!!!!!!a", "((((((ab)c)a)b)c)a)", "**(((a|b)|(a|b))|((a|b)|(a|b)))",
		strings.Repeat("*", 1<<20), strings.Repeat("(", 1<<20), strings.Repeat("(a", 1<<20), strings.Repeat("a", 1<<20), strings.Repeat("!", 1<<20) + "a",
	}
	for _, other := range others {
		for _, left := range []string{"-", "X", "aXYZ"} {
			checkNoText(t, left+" in "+other)
			checkNoText(t, left+" out "+other)
		}
	}
	for _, e := range expressionsUpTo(4) {
		checkText(t, "X in "+e.text, ofRegex(impl.CnIn, "X", e.regex))
		checkText(t, "- out "+e.text, ofRegex(impl.CnNotIn, "", e.regex))
	}
}

func TestParseConstraintOfOtherNumbers(t *testing.T) {
	others := []string{
		"", "+1", "+0", "01", "00", "-0", "-01", "--1", "-", "+", "1-", "1.0", "1.", ".5", "1e0", "0x1", "0b1", "0o1", "1_0", "a", "X", "1a", "a1", "\u0661", "\uff11", "1\n", "\n1", "1\t", "\xff", "1\xff", "\xb2",
		"100", "-100", "999", "1000000", "999999999999", "1000000000000", "4294967296", "4294967297", "18446744073709551616", "18446744073709551617", "-9223372036854775809", "9223372036854775808",
		strings.Repeat("0", 20) + "1", strings.Repeat("1", 1<<20), "inf", "nan", "len",
	}
	for _, other := range others {
		checkNoText(t, "len "+other+" 0 0 0")
		checkNoText(t, "len 0 "+other+" 0 0")
		checkNoText(t, "len 0 0 "+other+" 0")
		checkNoText(t, "len 0 0 0 "+other)
		checkNoText(t, "len "+other+" "+other+" "+other+" "+other)
	}
	for n := -120; n <= 120; n++ {
		for i, c := range []impl.Constraint{ofLengths(1, n, 2, 3), ofLengths(1, 3, n, 2), ofLengths(1, 2, 3, n), ofLengths(n, 1, 2, 3)} {
			text := textByKind(c)
			if isValid := n >= -9 && n <= 9 || i == 3 && n >= -99 && n <= 99; isValid {
				checkText(t, text, c)
			} else {
				checkNoText(t, text)
			}
			checkAnyText(t, text)
		}
	}
	for _, text := range []string{
		"len", "len ", "len 1", "len 1 2", "len 1 2 3", "len 1 2 3 ", "len 1 2 3 4 ", " len 1 2 3 4", "len 1 2 3 4 5", "len 1 2 3 4 5 6", "len  1 2 3 4", "len 1  2 3 4",
		"len 1,2,3,4", "1 2 3 4", "LEN 1 2 3 4", "len1 2 3 4", "len 12 3 4",
	} {
		checkNoText(t, text)
	}
}

func TestParseConstraintOfOtherStrings(t *testing.T) {
	others := []string{
		"", " ", "  ", "   ", "    ", "\n", "-", "X", "a", "aX", "1", "*a", "aX=Xa", "X!=Y", "Xin1", "X is a", "X = d", "X = a b", "X in (", "len 10 0 0 1",
	}
	for _, s := range slices.Concat(others, notWords, mixedStrings()) {
		checkNoText(t, s)
		checkAnyText(t, s)
	}
	for _, s := range stringsOver("aX-=! ", 5) {
		checkAnyText(t, s)
	}
	for _, s := range stringsOver("a-1 ", 5) {
		checkAnyText(t, "- in "+s)
		checkAnyText(t, "len "+s)
		checkAnyText(t, "len 0 0 0"+s)
	}
}

func TestParseConstraintOfVeryLongStrings(t *testing.T) {
	withoutTakingLong(t, func() {
		for _, n := range []int{50, 100, 1 << 18} {
			for _, part := range []string{" ", "a", "X", "-", "=", " =", " = ", "X = ", "len ", " 1", "in ", " (", "\xff", "\u00e9 "} {
				long := strings.Repeat(part, n)
				checkNoText(t, long)
				checkNoText(t, "X = "+long)
				checkNoText(t, long+" = X")
				checkNoText(t, "X = Y"+long)
				checkNoText(t, "X in a"+long)
				checkNoText(t, "len 1 2 3 4"+long)
				checkNoText(t, "len 1 2 3 "+long)
				checkNoText(t, "X "+long+" Y")
			}
		}
	})
}

// differingConstraints differ from the first one in one field each, or from another one in one node, Coeff or byte.
func differingConstraints() []impl.Constraint {
	a, b := letterOf("a"), letterOf("b")
	regex := func(kind int, args ...impl.Regex) impl.Regex { return nodeOf(impl.RxStar, nodeOf(kind, args...)) }
	first := impl.Constraint{Kind: 1, Left: "aX", Right: "Y", Regex: regex(impl.RxCat, a, b), Coeffs: []int{1, 2, 3}, Bound: 4}
	list := []impl.Constraint{first}
	add := func(change func(c *impl.Constraint)) {
		c := first
		change(&c)
		list = append(list, c)
	}
	for _, kind := range []int{0, 2, 3, 4, 5, 6, -1, 1<<32 + 1, math.MinInt} {
		add(func(c *impl.Constraint) { c.Kind = kind })
	}
	for _, s := range []string{"", "a", "aXX", "aY", "bX", "Xa", "aX\x00", "AX", "\xff"} {
		add(func(c *impl.Constraint) { c.Left = s })
	}
	for _, s := range []string{"", "X", "YY", "aY", "y", "Y ", "\xff"} {
		add(func(c *impl.Constraint) { c.Right = s })
	}
	add(func(c *impl.Constraint) { c.Left, c.Right = c.Right, c.Left })
	add(func(c *impl.Constraint) { c.Left, c.Right = "aXY", "" })
	for _, r := range []impl.Regex{
		{}, a, starsAround(1, a), regex(impl.RxOr, a, b), regex(impl.RxAnd, a, b), regex(impl.RxCat, b, a), regex(impl.RxCat, a, a), regex(impl.RxCat, a, letterOf("c")), regex(impl.RxCat, b, b), regex(impl.RxCat, a),
		regex(impl.RxCat, a, b, b), nodeOf(impl.RxNot, nodeOf(impl.RxCat, a, b)), nodeOf(impl.RxCat, a, b), regex(impl.RxCat, a, starsAround(1, b)),
		regex(impl.RxCat, a, letterOf("bb")), starsAround(2, nodeOf(impl.RxCat, a, b)),
	} {
		add(func(c *impl.Constraint) { c.Regex = r })
	}
	for _, coeffs := range [][]int{nil, {1}, {1, 2}, {1, 2, 3, 4}, {1, 2, 3, 0}, {0, 2, 3}, {-1, 2, 3}, {1, 3, 2}, {1, 2, 4}, {1, -2, 3}, {2, 2, 3}, {1, 1, 3}, {1, 2, 1<<32 + 3}, {3, 2, 1}} {
		add(func(c *impl.Constraint) { c.Coeffs = coeffs })
	}
	for _, bound := range []int{0, 3, 5, -4, 1<<32 + 4, math.MaxInt} {
		add(func(c *impl.Constraint) { c.Bound = bound })
	}
	return append(list, append(examples(), impl.Constraint{}, ofTerms(impl.CnEqual, "Xa", "aX"), ofTerms(impl.CnDiffer, "aX", "Xa"), ofLengths(1, -1, 2, 0), ofLengths(-1, -1, 2, 0, 0), ofLengths(-1, -1, 2))...)
}

func TestEqualConstraint(t *testing.T) {
	for i, c := range differingConstraints() {
		for j, d := range differingConstraints() {
			d.Regex, d.Coeffs = copyOf(d.Regex), slices.Clone(d.Coeffs)
			if got := impl.EqualConstraint(c, d); got != (i == j) {
				t.Errorf("EqualConstraint(%s, %s) = %v", nameOf(c), nameOf(d), got)
			}
			if hasSameFields(c, d) != (i == j) {
				t.Errorf("%s and %s are tested as %v", nameOf(c), nameOf(d), i == j)
			}
		}
		if !impl.EqualConstraint(c, c) {
			t.Errorf("EqualConstraint(%s) with itself = false", nameOf(c))
		}
	}
}

func TestEqualConstraintOfExpressions(t *testing.T) {
	around := func(r impl.Regex) impl.Constraint {
		return impl.Constraint{Kind: impl.CnIn, Left: "X", Regex: nodeOf(impl.RxOr, letterOf("a"), nodeOf(impl.RxStar, r))}
	}
	for i, r := range differing() {
		for j, s := range differing() {
			if got := impl.EqualConstraint(around(r), around(s)); got != (i == j) {
				t.Errorf("EqualConstraint with the expressions %d and %d = %v", i, j, got)
			}
		}
	}
	list := expressionsUpTo(3)
	for i, e := range list {
		if f := list[(i+1)%len(list)]; impl.EqualConstraint(around(e.regex), around(f.regex)) || !impl.EqualConstraint(around(e.regex), around(copyOf(e.regex))) {
			t.Errorf("EqualConstraint with %s and %s is wrong", e.text, f.text)
		}
	}
	withoutTakingLong(t, func() {
		ring := ofRegex(impl.CnIn, "X", ringOf(impl.RxStar))
		if !impl.EqualConstraint(ring, ring) || !impl.EqualConstraint(ring, ofRegex(impl.CnIn, "X", ringOf(impl.RxStar, impl.RxStar))) || impl.EqualConstraint(ring, ofRegex(impl.CnIn, "X", ringOf(impl.RxNot))) {
			t.Error("EqualConstraint with expressions that contain themselves is wrong")
		}
		long := impl.Constraint{Left: strings.Repeat("a", 1<<20), Right: strings.Repeat("b", 1<<20), Coeffs: make([]int, 1<<20)}
		other := long
		other.Coeffs = append(make([]int, 1<<20-1), 1)
		if !impl.EqualConstraint(long, long) || impl.EqualConstraint(long, other) {
			t.Error("EqualConstraint of very long fields is wrong")
		}
	})
}

// placesOfConstraint adds the addresses of all elements, the unused ones too, and counts them.
func placesOfConstraint(c impl.Constraint, regexes map[*impl.Regex]bool, numbers map[*int]bool) int {
	coeffs := c.Coeffs[:cap(c.Coeffs)]
	for i := range coeffs {
		numbers[&coeffs[i]] = true
	}
	return placesOf(c.Regex, regexes) + len(coeffs)
}

func TestParseConstraintGivesNewMemory(t *testing.T) {
	for _, text := range textsForTests {
		regexes, numbers, count := map[*impl.Regex]bool{}, map[*int]bool{}, 0
		var results []impl.Constraint
		for range 3 {
			c, _ := impl.ParseConstraint(text)
			results = append(results, c)
			count += placesOfConstraint(c, regexes, numbers)
		}
		if len(regexes)+len(numbers) != count {
			t.Errorf("results of ParseConstraint(%q) share memory", text)
		}
		for _, c := range results[1:] {
			clear(c.Coeffs)
			clear(c.Regex.Args)
			_, _ = append(c.Coeffs, 77), append(c.Regex.Args, impl.Regex{Kind: 77})
		}
		checkText(t, text, results[0])
		checkAnyText(t, text)
	}
}

// withUnusedElements returns a copy of c whose slices have elements that are not used.
func withUnusedElements(c impl.Constraint) impl.Constraint {
	c.Coeffs = append(slices.Clone(c.Coeffs), 77, -78, 79)[:len(c.Coeffs)]
	c.Regex = withUnusedArgs(c.Regex)
	return c
}

func withUnusedArgs(r impl.Regex) impl.Regex {
	list := make([]impl.Regex, 0, len(r.Args)+2)
	for _, arg := range r.Args {
		list = append(list, withUnusedArgs(arg))
	}
	r.Args = append(list, impl.Regex{Kind: 77, Letter: "unused"}, impl.Regex{Kind: 78})[:len(list)]
	return r
}

// allElements returns a copy of c in which all elements are used.
func allElements(c impl.Constraint) impl.Constraint {
	c.Coeffs = slices.Clone(c.Coeffs[:len(c.Coeffs)+3])
	c.Regex = allArgs(c.Regex)
	return c
}

func allArgs(r impl.Regex) impl.Regex {
	list := slices.Clone(r.Args[:len(r.Args)+2])
	for i := range len(r.Args) {
		list[i] = allArgs(list[i])
	}
	r.Args = list
	return r
}

func TestConstraintFunctionsKeepTheirArguments(t *testing.T) {
	list := differingConstraints()
	for _, text := range textsForTests {
		list = append(list, parsedConstraint(t, text))
	}
	for i, original := range list {
		other := list[(i+1)%len(list)]
		c, d := withUnusedElements(original), withUnusedElements(other)
		impl.IsValidConstraint(c)
		impl.VarsOfConstraint(c)
		impl.FormatConstraint(c)
		impl.EqualConstraint(c, d)
		impl.EqualConstraint(c, c)
		for _, v := range []impl.Values{{}, exampleValues, {X: "#"}} {
			impl.HoldsFor(c, v)
		}
		if !reflect.DeepEqual(allElements(c), allElements(withUnusedElements(original))) || !reflect.DeepEqual(allElements(d), allElements(withUnusedElements(other))) {
			t.Errorf("an argument is changed to %s or %s", nameOf(c), nameOf(d))
		}
		if isValidByFields(original) {
			checkText(t, textByKind(original), c)
		}
	}
}

// randomConstraint is valid in most cases.
func randomConstraint(random *rand.Rand) impl.Constraint {
	signs := strings.Split("abcXYZ", "")
	term := func() string { return randomString(random, signs, random.IntN(5)*random.IntN(4)) }
	c := impl.Constraint{Kind: 1 + random.IntN(5)}
	switch c.Kind {
	case 1, 2:
		c.Left, c.Right = term(), term()
		if random.IntN(4) == 0 {
			c.Right = c.Left
		}
	case 3, 4:
		c.Left, c.Regex = term(), randomExpression(random, 1+random.IntN(16))
	case 5:
		for range 3 {
			c.Coeffs = append(c.Coeffs, random.IntN(19)-9)
		}
		c.Bound = random.IntN(199) - 99
	}
	if random.IntN(8) == 0 {
		spoil(random, &c)
	}
	return c
}

// spoil changes one field, which often makes the constraint invalid.
func spoil(random *rand.Rand, c *impl.Constraint) {
	switch random.IntN(8) {
	case 0:
		c.Kind = random.IntN(9) - 1
	case 1:
		c.Left += randomString(random, otherStrings, 1)
	case 2:
		c.Right += randomString(random, []string{"a", "Z", "#", "-", strings.Repeat("X", 9)}, 1)
	case 3:
		c.Regex.Kind = random.IntN(12) - 1
	case 4:
		c.Regex.Letter += "a"
	case 5:
		c.Regex.Args = append(c.Regex.Args, letterOf("a"))
	case 6:
		c.Coeffs = append(c.Coeffs, random.IntN(19)-9)
	case 7:
		c.Bound += random.IntN(41) - 20
	}
}

func TestRandomConstraints(t *testing.T) {
	random := rand.New(rand.NewPCG(9, 1))
	letters := strings.Split("abc", "")
	valid, holding := map[int]int{}, map[int]int{}
	var last impl.Constraint
	for range 20000 {
		c := randomConstraint(random)
		checkAnyConstraint(t, c)
		if impl.EqualConstraint(c, last) != hasSameFields(c, last) || !impl.EqualConstraint(c, withUnusedElements(c)) {
			t.Errorf("EqualConstraint(%s, %s) is wrong", nameOf(c), nameOf(last))
		}
		last = c
		word := func() string { return randomString(random, letters[:1+random.IntN(3)], random.IntN(4)) }
		v := impl.Values{X: word(), Y: word(), Z: word()}
		if isValidByFields(c) {
			checkOpposites(t, c, v)
			valid[c.Kind]++
			if impl.HoldsFor(c, v) {
				holding[c.Kind]++
			}
		}
	}
	for kind := 1; kind <= 5; kind++ {
		if valid[kind] < 1000 || holding[kind] < 100 || valid[kind]-holding[kind] < 100 {
			t.Errorf("%d random constraints of the Kind %d are valid, and %d hold", valid[kind], kind, holding[kind])
		}
	}
}

func TestRandomConstraintsWithLongWords(t *testing.T) {
	random := rand.New(rand.NewPCG(9, 2))
	letters := strings.Split("abc", "")
	long := 0
	for range 600 {
		c := randomConstraint(random)
		word := func() string { return randomString(random, letters[:1+random.IntN(3)], random.IntN(31)) }
		v := impl.Values{X: word(), Y: word(), Z: word()}
		n := len(appliedByBytes(c.Left, v))
		if isValidByFields(c) && n <= 90 {
			checkOpposites(t, c, v)
			if n > 30 {
				long++
			}
		}
	}
	if long < 50 {
		t.Errorf("only %d random terms have long words", long)
	}
}

func TestRandomConstraintTexts(t *testing.T) {
	random := rand.New(rand.NewPCG(9, 3))
	parts := []string{"-", "X", "Y", "Z", "a", "b", "c", "aX", "=", "!=", "in", "out", "len", "0", "1", "-1", "-9", "10", "99", "-99", "(ab)", "*a", "!", ".", "(a|b)", "(", ")", "|", " ", " ", " ", "\xff"}
	for range 100000 {
		text := randomString(random, parts, random.IntN(8))
		if random.IntN(2) == 0 {
			text = randomTextOf(random, parts)
		}
		checkAnyText(t, text)
		if c, ok := impl.ParseConstraint(text); ok && impl.FormatConstraint(c) != text {
			t.Errorf("FormatConstraint of ParseConstraint(%q) = %q", text, impl.FormatConstraint(c))
		}
	}
}

// randomTextOf returns the text of a valid constraint, in which a part is sometimes replaced.
func randomTextOf(random *rand.Rand, parts []string) string {
	c := randomConstraint(random)
	for !isValidByFields(c) {
		c = randomConstraint(random)
	}
	list := strings.Split(textByKind(c), " ")
	if random.IntN(3) == 0 {
		list[random.IntN(len(list))] = parts[random.IntN(len(parts))]
	}
	return strings.Join(list, " ")
}
