package tests

import (
	"math"
	"reflect"
	"slices"
	"strconv"
	"strings"
	"testing"

	"loop.example/g00582/impl"
)

func leafOf(kind int) impl.Regex { return impl.Regex{Kind: kind} }

func letterOf(s string) impl.Regex { return impl.Regex{Kind: impl.RxLetter, Letter: s} }

func nodeOf(kind int, args ...impl.Regex) impl.Regex { return impl.Regex{Kind: kind, Args: args} }

func starsAround(n int, r impl.Regex) impl.Regex {
	for range n {
		r = nodeOf(impl.RxStar, r)
	}
	return r
}

// partsOfKind is written out, so that the tests do not take it from the program.
var partsOfKind = map[int]int{
	impl.RxNone: 0, impl.RxEmpty: 0, impl.RxLetter: 0, impl.RxAny: 0,
	impl.RxCat: 2, impl.RxOr: 2, impl.RxAnd: 2, impl.RxStar: 1, impl.RxNot: 1,
}

type expression struct {
	text  string
	regex impl.Regex
}

// expressionsUpTo returns all expressions of at most n nodes with their representations.
func expressionsUpTo(n int) []expression {
	bySize := [][]expression{nil, {
		{"0", leafOf(impl.RxNone)},
		{"1", leafOf(impl.RxEmpty)},
		{"a", letterOf("a")},
		{"b", letterOf("b")},
		{"c", letterOf("c")},
		{".", leafOf(impl.RxAny)},
	}}
	for size := 2; size <= n; size++ {
		var list []expression
		for _, e := range bySize[size-1] {
			list = append(list,
				expression{"*" + e.text, nodeOf(impl.RxStar, e.regex)},
				expression{"!" + e.text, nodeOf(impl.RxNot, e.regex)})
		}
		for k := 1; k < size-1; k++ {
			for _, l := range bySize[k] {
				for _, r := range bySize[size-1-k] {
					list = append(list,
						expression{"(" + l.text + r.text + ")", nodeOf(impl.RxCat, l.regex, r.regex)},
						expression{"(" + l.text + "|" + r.text + ")", nodeOf(impl.RxOr, l.regex, r.regex)},
						expression{"(" + l.text + "&" + r.text + ")", nodeOf(impl.RxAnd, l.regex, r.regex)})
				}
			}
		}
		bySize = append(bySize, list)
	}
	return slices.Concat(bySize...)
}

// textWithoutLimits represents expressions of any size.
func textWithoutLimits(r impl.Regex) string {
	switch r.Kind {
	case impl.RxNone:
		return "0"
	case impl.RxEmpty:
		return "1"
	case impl.RxLetter:
		return r.Letter
	case impl.RxAny:
		return "."
	case impl.RxStar:
		return "*" + textWithoutLimits(r.Args[0])
	case impl.RxNot:
		return "!" + textWithoutLimits(r.Args[0])
	}
	sign := map[int]string{impl.RxCat: "", impl.RxOr: "|", impl.RxAnd: "&"}[r.Kind]
	return "(" + textWithoutLimits(r.Args[0]) + sign + textWithoutLimits(r.Args[1]) + ")"
}

func sizeOf(r impl.Regex) (nodes int, depth int) {
	for _, arg := range r.Args {
		n, d := sizeOf(arg)
		nodes += n
		depth = max(depth, d)
	}
	return nodes + 1, depth + 1
}

func copyOf(r impl.Regex) impl.Regex {
	list := make([]impl.Regex, 0, len(r.Args))
	for _, arg := range r.Args {
		list = append(list, copyOf(arg))
	}
	r.Args = list
	return r
}

func checkValid(t *testing.T, text string, r impl.Regex) {
	t.Helper()
	if !impl.IsValidRegex(r) {
		t.Errorf("IsValidRegex of %s = false", text)
	}
	if got := impl.FormatRegex(r); got != text {
		t.Errorf("FormatRegex of %s = %q", text, got)
	}
	got, ok := impl.ParseRegex(text)
	if !ok || !impl.EqualRegex(got, r) || textWithoutLimits(got) != text {
		t.Errorf("ParseRegex(%q) = %v, %v", text, got, ok)
	}
}

func checkInvalid(t *testing.T, name string, r impl.Regex) {
	t.Helper()
	if impl.IsValidRegex(r) {
		t.Errorf("IsValidRegex of %s = true", name)
	}
	if got := impl.FormatRegex(r); got != "" {
		t.Errorf("FormatRegex of %s = %.40q", name, got)
	}
}

func checkRejected(t *testing.T, s string) {
	t.Helper()
	if r, ok := impl.ParseRegex(s); ok || r.Kind != 0 || r.Letter != "" || len(r.Args) != 0 {
		t.Errorf("ParseRegex(%.40q) = %v, %v", s, r, ok)
	}
}

func TestRegexConstants(t *testing.T) {
	if impl.MaxRegexNodes != 16 || impl.MaxRegexDepth != 6 {
		t.Errorf("MaxRegexNodes = %d, MaxRegexDepth = %d", impl.MaxRegexNodes, impl.MaxRegexDepth)
	}
	kinds := []int{impl.RxNone, impl.RxEmpty, impl.RxLetter, impl.RxAny, impl.RxCat, impl.RxOr, impl.RxAnd, impl.RxStar, impl.RxNot}
	if !slices.Equal(kinds, []int{1, 2, 3, 4, 5, 6, 7, 8, 9}) {
		t.Errorf("the kinds are %v", kinds)
	}
}

func TestRegexForms(t *testing.T) {
	a, b := letterOf("a"), letterOf("b")
	for text, r := range map[string]impl.Regex{
		"0":             leafOf(impl.RxNone),
		"1":             leafOf(impl.RxEmpty),
		"a":             a,
		"b":             b,
		"c":             letterOf("c"),
		".":             leafOf(impl.RxAny),
		"(ab)":          nodeOf(impl.RxCat, a, b),
		"(a|b)":         nodeOf(impl.RxOr, a, b),
		"(a&b)":         nodeOf(impl.RxAnd, a, b),
		"*a":            nodeOf(impl.RxStar, a),
		"!a":            nodeOf(impl.RxNot, a),
		"(a(ba))":       nodeOf(impl.RxCat, a, nodeOf(impl.RxCat, b, a)),
		"((ab)a)":       nodeOf(impl.RxCat, nodeOf(impl.RxCat, a, b), a),
		"*(a|!b)":       nodeOf(impl.RxStar, nodeOf(impl.RxOr, a, nodeOf(impl.RxNot, b))),
		"(*ab)":         nodeOf(impl.RxCat, nodeOf(impl.RxStar, a), b),
		"*(ab)":         nodeOf(impl.RxStar, nodeOf(impl.RxCat, a, b)),
		"((a|b)&!(.0))": nodeOf(impl.RxAnd, nodeOf(impl.RxOr, a, b), nodeOf(impl.RxNot, nodeOf(impl.RxCat, leafOf(impl.RxAny), leafOf(impl.RxNone)))),
	} {
		checkValid(t, text, r)
	}
}

func TestEveryExpressionOfFiveNodes(t *testing.T) {
	for _, e := range expressionsUpTo(5) {
		checkValid(t, e.text, e.regex)
	}
}

func TestParseRegexEveryShortString(t *testing.T) {
	// A representation of at most five bytes has at most five nodes.
	expressions := map[string]impl.Regex{}
	for _, e := range expressionsUpTo(5) {
		expressions[e.text] = e.regex
	}
	for _, s := range stringsOver("01ac.(|&)*! d", 5) {
		want, isExpression := expressions[s]
		got, ok := impl.ParseRegex(s)
		if ok != isExpression || !impl.EqualRegex(got, want) {
			t.Fatalf("ParseRegex(%q) = %v, %v", s, got, ok)
		}
	}
}

func TestParseRegexEveryByte(t *testing.T) {
	for i := range 256 {
		s := string([]byte{byte(i)})
		if strings.Contains("01abc.", s) {
			continue
		}
		for _, other := range []string{s, "*" + s, "!" + s, "(" + s + "a)", "(a" + s + ")", "(a|" + s + ")", "(" + s + "&a)", "a" + s, s + s} {
			checkRejected(t, other)
		}
	}
}

func TestParseRegexChangedText(t *testing.T) {
	const text = "((*a|!b)&(.(0|1)))"
	if _, ok := impl.ParseRegex(text); !ok {
		t.Fatalf("ParseRegex(%q) is not accepted", text)
	}
	check := func(s string) {
		r, ok := impl.ParseRegex(s)
		if !ok {
			checkRejected(t, s)
		} else if !impl.IsValidRegex(r) || impl.FormatRegex(r) != s || textWithoutLimits(r) != s {
			t.Errorf("ParseRegex(%q) = %v", s, r)
		}
	}
	for i := range len(text) {
		checkRejected(t, text[:i])
		checkRejected(t, text[i+1:])
		check(text[:i] + text[i+1:])
		for b := range 256 {
			other := string([]byte{byte(b)})
			check(text[:i] + other + text[i+1:])
			check(text[:i] + other + text[i:])
			checkRejected(t, text+other)
			if strings.ContainsAny(other, "01abc.(|&)*!") {
				continue
			}
			checkRejected(t, text[:i]+other+text[i+1:])
			checkRejected(t, text[:i]+other+text[i:])
		}
	}
}

func TestParseRegexRejectsOtherStrings(t *testing.T) {
	for _, s := range []string{
		"", " ", "\n", "\x00", "\xff", "-", "?", "+", "2", "d", "A", "X", "#", "\u00e9", "\uff0a", "\u0430",
		"(", ")", "()", "|", "&", "*", "!", "**", "!!", "*!", "(a", "a)", "(a)", "(ab", "ab)", "(ab))", "((ab)",
		"(|)", "(&)", "(a|)", "(|a)", "(a&)", "(&a)", "(a|b", "a|b", "a&b", "(a||b)", "(a&&b)", "(a|&b)", "(a&|b)",
		"(a|b|c)", "(a&b&c)", "(abc)", "((ab)cd)", "(a b)", "( ab)", "(ab )", " a", "a ", "a\n", "\na", "a\x00", "*a ", "* a", "! a",
		"(a,b)", "(a-b)", "[ab]", "{ab}", "a*", "a!", "(ab)*", "(a*)", "(a!)", "(*)", "(*a)", "(!a)", "(a*)b", "ab", "aa", "01", "..",
		"(ab)c", "(ab)(ab)", "a(ab)", "0a", "1a", ".a", "a0", "*ab", "!ab", "*a|b", "(a.b)", "(ab)|", "(ab)&", "|(ab)",
	} {
		checkRejected(t, s)
	}
}

func TestParseRegexLongStrings(t *testing.T) {
	for _, n := range []int{7, 17, 31, 100, 1 << 20} {
		for _, part := range []string{"a", "0", ".", "(", ")", "*", "!", "|", "&", "(a", "(a|", "(*", "*(", "!*", "a)", "(ab)", " ", "\xff", "d"} {
			long := strings.Repeat(part, n)
			checkRejected(t, long)
			checkRejected(t, "a"+long)
			checkRejected(t, "(ab)"+long)
			checkRejected(t, "(a|b"+long)
			checkRejected(t, long+"a")
			checkRejected(t, long+"a"+strings.Repeat(")", n))
			checkRejected(t, long+strings.Repeat("b)", n))
		}
	}
}

// expressionOf returns an expression with the number of nodes and the depth. It has as few forms of two parts as
// possible, or as many if wide is true; their deepest part is the second one if second is true.
func expressionOf(nodes int, depth int, wide bool, second bool) impl.Regex {
	if nodes == 1 {
		return letterOf("c")
	}
	most := 1<<(depth-1) - 1
	rest := nodes - 1
	other := max(0, rest-most)
	if wide && rest-1 >= depth-1 {
		other = max(1, other)
	}
	if other == 0 {
		return nodeOf(impl.RxNot, expressionOf(rest, depth-1, wide, second))
	}
	flat := 1
	for 1<<flat-1 < other {
		flat++
	}
	args := []impl.Regex{expressionOf(rest-other, depth-1, wide, second), expressionOf(other, flat, wide, second)}
	if second {
		slices.Reverse(args)
	}
	return nodeOf(impl.RxOr, args...)
}

func TestRegexLimits(t *testing.T) {
	for depth := 1; depth <= 9; depth++ {
		for nodes := depth; nodes <= 1<<depth-1 && nodes <= 70; nodes++ {
			for _, wide := range []bool{false, true} {
				for _, second := range []bool{false, true} {
					r := expressionOf(nodes, depth, wide, second)
					if n, d := sizeOf(r); n != nodes || d != depth {
						t.Fatalf("expressionOf(%d, %d) has %d nodes and depth %d", nodes, depth, n, d)
					}
					text := textWithoutLimits(r)
					if nodes <= 16 && depth <= 6 {
						checkValid(t, text, r)
					} else {
						checkInvalid(t, text, r)
						checkRejected(t, text)
					}
				}
			}
		}
	}
}

func TestRegexLimitsOfChains(t *testing.T) {
	for _, leaf := range []expression{{"0", leafOf(impl.RxNone)}, {"b", letterOf("b")}, {".", leafOf(impl.RxAny)}} {
		for kind, mark := range map[int]string{impl.RxStar: "*", impl.RxNot: "!"} {
			r, text := leaf.regex, leaf.text
			for depth := 1; depth <= 40; depth++ {
				if depth <= 6 {
					checkValid(t, text, r)
				} else {
					checkInvalid(t, text, r)
					checkRejected(t, text)
				}
				r, text = nodeOf(kind, r), mark+text
			}
		}
	}
	// 16 nodes in 30 bytes are the longest representation.
	eight := nodeOf(impl.RxOr, letterOf("a"), letterOf("b"))
	for range 2 {
		eight = nodeOf(impl.RxOr, eight, eight)
	}
	checkValid(t, "*(((a|b)|(a|b))|((a|b)|(a|b)))", nodeOf(impl.RxStar, eight))
	checkInvalid(t, "17 nodes", starsAround(2, eight))
	checkRejected(t, "**(((a|b)|(a|b))|((a|b)|(a|b)))")
	checkInvalid(t, "31 nodes of depth 5", nodeOf(impl.RxOr, eight, eight))
	checkRejected(t, "((((a|b)|(a|b))|((a|b)|(a|b)))|(((a|b)|(a|b))|((a|b)|(a|b))))")
}

// invalidNodes returns nodes that have none of the forms or invalid Args, no two of them equal.
func invalidNodes() map[string]impl.Regex {
	a := letterOf("a")
	list := map[string]impl.Regex{
		"an empty Letter":          letterOf(""),
		"a Letter of two letters":  letterOf("ab"),
		"a Letter of 31 letters":   letterOf(strings.Repeat("a", 31)),
		"a Letter and a newline":   letterOf("a\n"),
		"a Letter of two bytes":    letterOf("\u00e9"),
		"a mark as a Letter":       letterOf("."),
		"a letter with Args":       {Kind: impl.RxLetter, Letter: "a", Args: []impl.Regex{a}},
		"a letter with two Args":   {Kind: impl.RxLetter, Letter: "a", Args: []impl.Regex{a, a}},
		"many Args":                {Kind: impl.RxOr, Args: slices.Repeat([]impl.Regex{a}, 100000)},
		"many Args behind a star":  {Kind: impl.RxStar, Args: slices.Repeat([]impl.Regex{a}, 100000)},
		"many Args behind none":    {Kind: impl.RxNone, Args: slices.Repeat([]impl.Regex{a}, 100000)},
		"the zero expression":      {},
		"a Letter and no Kind":     {Letter: "a"},
		"an invalid first Arg":     nodeOf(impl.RxCat, impl.Regex{}, a),
		"an invalid second Arg":    nodeOf(impl.RxCat, a, impl.Regex{}),
		"invalid Args":             nodeOf(impl.RxOr, impl.Regex{}, impl.Regex{}),
		"an invalid Arg of a star": nodeOf(impl.RxStar, impl.Regex{}),
		"an invalid Arg of a not":  nodeOf(impl.RxNot, letterOf("d")),
	}
	for i := range 256 {
		if s := string([]byte{byte(i)}); !strings.Contains("abc.", s) {
			list["the Letter "+strconv.Quote(s)] = letterOf(s)
		}
	}
	for _, kind := range []int{0, -1, -2, -7, -9, 10, 11, 12, 100, 256 + impl.RxAny, 1<<32 + impl.RxAny, -1<<32 + impl.RxStar, 1<<32 + impl.RxOr, math.MaxInt, math.MinInt} {
		for n := range 4 {
			if kind != 0 || n > 0 {
				list["the Kind "+impl.FormatInt(kind)+" with Args "+impl.FormatInt(n)] = nodeOf(kind, slices.Repeat([]impl.Regex{a}, n)...)
			}
		}
	}
	for kind, parts := range partsOfKind {
		for n := range 6 {
			r := nodeOf(kind, slices.Repeat([]impl.Regex{leafOf(impl.RxAny)}, n)...)
			name := "the Kind " + impl.FormatInt(kind) + " with Args " + impl.FormatInt(n)
			if n != parts && kind != impl.RxLetter {
				list[name] = r
			}
			if kind != impl.RxLetter {
				r.Letter = "b"
				list[name+" and a Letter"] = r
				r.Letter = "."
				list[name+" and another Letter"] = r
			}
		}
	}
	return list
}

func TestInvalidRegexes(t *testing.T) {
	a := letterOf("a")
	for name, r := range invalidNodes() {
		checkInvalid(t, name, r)
		for _, other := range []impl.Regex{
			nodeOf(impl.RxStar, r), nodeOf(impl.RxNot, r), nodeOf(impl.RxCat, r, a), nodeOf(impl.RxCat, a, r), nodeOf(impl.RxOr, r, a),
			nodeOf(impl.RxOr, a, r), nodeOf(impl.RxAnd, r, a), nodeOf(impl.RxAnd, a, r), nodeOf(impl.RxOr, r, r), starsAround(4, r), starsAround(5, r),
			nodeOf(impl.RxCat, a, nodeOf(impl.RxNot, nodeOf(impl.RxAnd, r, a))), nodeOf(impl.RxCat, nodeOf(impl.RxOr, a, nodeOf(impl.RxStar, r)), a),
		} {
			checkInvalid(t, name+" inside", other)
		}
	}
}

func TestEqualRegexEveryPair(t *testing.T) {
	list := expressionsUpTo(3)
	for _, e := range list {
		for _, f := range list {
			if got := impl.EqualRegex(e.regex, copyOf(f.regex)); got != (e.text == f.text) {
				t.Fatalf("EqualRegex of %s and %s = %v", e.text, f.text, got)
			}
		}
	}
}

func TestEqualRegexOfInvalidNodes(t *testing.T) {
	list, copies := invalidNodes(), invalidNodes()
	a := letterOf("a")
	for name, r := range list {
		for other, s := range copies {
			want := name == other
			if impl.EqualRegex(r, s) != want || impl.EqualRegex(nodeOf(impl.RxCat, a, r), nodeOf(impl.RxCat, a, s)) != want {
				t.Fatalf("EqualRegex of %s and %s is not %v", name, other, want)
			}
		}
		for _, e := range expressionsUpTo(2) {
			if impl.EqualRegex(r, e.regex) || impl.EqualRegex(e.regex, r) {
				t.Fatalf("EqualRegex of %s and %s = true", name, e.text)
			}
		}
	}
}

// differing returns expressions of which no two are equal: each differs from the first one in one field.
func differing() []impl.Regex {
	a, b := letterOf("a"), letterOf("b")
	return []impl.Regex{
		{Kind: impl.RxCat, Letter: "a", Args: []impl.Regex{a, b}},
		{Kind: impl.RxOr, Letter: "a", Args: []impl.Regex{a, b}},
		{Kind: -impl.RxCat, Letter: "a", Args: []impl.Regex{a, b}},
		{Kind: 1<<32 + impl.RxCat, Letter: "a", Args: []impl.Regex{a, b}},
		{Kind: impl.RxCat, Letter: "", Args: []impl.Regex{a, b}},
		{Kind: impl.RxCat, Letter: "b", Args: []impl.Regex{a, b}},
		{Kind: impl.RxCat, Letter: "aa", Args: []impl.Regex{a, b}},
		{Kind: impl.RxCat, Letter: "a\x00", Args: []impl.Regex{a, b}},
		{Kind: impl.RxCat, Letter: "a"},
		{Kind: impl.RxCat, Letter: "a", Args: []impl.Regex{a}},
		{Kind: impl.RxCat, Letter: "a", Args: []impl.Regex{b, a}},
		{Kind: impl.RxCat, Letter: "a", Args: []impl.Regex{a, a}},
		{Kind: impl.RxCat, Letter: "a", Args: []impl.Regex{b, b}},
		{Kind: impl.RxCat, Letter: "a", Args: []impl.Regex{a, b, b}},
		{Kind: impl.RxCat, Letter: "a", Args: []impl.Regex{a, a, b}},
		{Kind: impl.RxCat, Letter: "a", Args: []impl.Regex{a, {Kind: impl.RxLetter, Letter: "b", Args: []impl.Regex{{}}}}},
	}
}

func TestEqualRegexDifferencesDeepInside(t *testing.T) {
	a := letterOf("a")
	around := []func(impl.Regex) impl.Regex{
		func(r impl.Regex) impl.Regex { return r },
		func(r impl.Regex) impl.Regex { return nodeOf(impl.RxStar, r) },
		func(r impl.Regex) impl.Regex { return nodeOf(impl.RxCat, r, a) },
		func(r impl.Regex) impl.Regex { return nodeOf(impl.RxCat, a, r) },
		func(r impl.Regex) impl.Regex { return nodeOf(77, a, r, a) },
		func(r impl.Regex) impl.Regex { return nodeOf(impl.RxOr, nodeOf(impl.RxNot, r), nodeOf(impl.RxNot, a)) },
		func(r impl.Regex) impl.Regex { return nodeOf(impl.RxOr, nodeOf(impl.RxNot, a), nodeOf(impl.RxNot, r)) },
		func(r impl.Regex) impl.Regex { return starsAround(5, r) },
		func(r impl.Regex) impl.Regex { return starsAround(1000, r) },
		func(r impl.Regex) impl.Regex {
			for range 50 {
				r = nodeOf(impl.RxAnd, a, nodeOf(impl.RxOr, r, a))
			}
			return r
		},
	}
	for k, inside := range around {
		for i, r := range differing() {
			for j, s := range differing() {
				if got := impl.EqualRegex(inside(r), inside(s)); got != (i == j) {
					t.Errorf("EqualRegex of %d and %d inside of %d = %v", i, j, k, got)
				}
			}
		}
	}
}

func TestNilAndEmptyArgs(t *testing.T) {
	for _, e := range []expression{{"0", leafOf(impl.RxNone)}, {"1", leafOf(impl.RxEmpty)}, {"a", letterOf("a")}, {".", leafOf(impl.RxAny)}} {
		empty := e.regex
		empty.Args = []impl.Regex{}
		checkValid(t, e.text, e.regex)
		checkValid(t, e.text, empty)
		checkValid(t, "*"+e.text, nodeOf(impl.RxStar, empty))
		if !impl.EqualRegex(e.regex, empty) || !impl.EqualRegex(empty, e.regex) || !impl.EqualRegex(empty, empty) {
			t.Errorf("EqualRegex of %s with and without a slice of Args = false", e.text)
		}
		if !impl.EqualRegex(starsAround(9, empty), starsAround(9, e.regex)) {
			t.Errorf("EqualRegex of %s with and without a slice of Args = false, deep inside", e.text)
		}
	}
	for _, kind := range []int{0, -1, 10, impl.RxCat, impl.RxOr, impl.RxAnd, impl.RxStar, impl.RxNot} {
		with, without := impl.Regex{Kind: kind, Args: []impl.Regex{}}, leafOf(kind)
		checkInvalid(t, "an empty slice of Args", with)
		checkInvalid(t, "no slice of Args", without)
		if !impl.EqualRegex(with, without) || !impl.EqualRegex(without, with) {
			t.Errorf("EqualRegex of the Kind %d with and without a slice of Args = false", kind)
		}
	}
}

func TestVeryDeepRegexes(t *testing.T) {
	const depth = 1000000
	a, b := starsAround(depth, letterOf("a")), starsAround(depth, letterOf("b"))
	checkInvalid(t, "a very deep expression", a)
	checkInvalid(t, "an expression with a very deep Arg", nodeOf(impl.RxCat, letterOf("a"), a))
	if !impl.EqualRegex(a, starsAround(depth, letterOf("a"))) || !impl.EqualRegex(a, a) {
		t.Error("EqualRegex of very deep expressions = false")
	}
	if impl.EqualRegex(a, b) || impl.EqualRegex(a, starsAround(depth-1, letterOf("a"))) || impl.EqualRegex(a, letterOf("a")) {
		t.Error("EqualRegex of different very deep expressions = true")
	}
}

// doubled has 2 to the power of depth leaves, in as many slices as its depth.
func doubled(depth int, leaf impl.Regex) impl.Regex {
	for range depth {
		leaf = nodeOf(impl.RxOr, leaf, leaf)
	}
	return leaf
}

func TestRegexesWithVeryManyNodes(t *testing.T) {
	for _, depth := range []int{20, 64, 1000} {
		a := doubled(depth, letterOf("a"))
		checkInvalid(t, "an expression with very many nodes", a)
		checkInvalid(t, "a star around very many nodes", nodeOf(impl.RxStar, a))
		if !impl.EqualRegex(a, a) || !impl.EqualRegex(a, doubled(depth, letterOf("a"))) {
			t.Error("EqualRegex of expressions with very many nodes = false")
		}
		if impl.EqualRegex(a, doubled(depth, letterOf("b"))) || impl.EqualRegex(a, doubled(depth-1, letterOf("a"))) {
			t.Error("EqualRegex of different expressions with very many nodes = true")
		}
	}
	full := copyOf(doubled(16, letterOf("a")))
	checkInvalid(t, "a full tree", full)
	if !impl.EqualRegex(full, doubled(16, letterOf("a"))) || impl.EqualRegex(full, doubled(16, letterOf("c"))) {
		t.Error("EqualRegex of a full tree is wrong")
	}
	checkValid(t, "(((a|a)|(a|a))|((a|a)|(a|a)))", doubled(3, letterOf("a")))
}

// ringOf returns an expression that contains itself, after as many nodes as there are kinds.
func ringOf(kinds ...int) impl.Regex {
	first := make([]impl.Regex, 1)
	r := impl.Regex{Kind: kinds[len(kinds)-1], Args: first}
	for i := len(kinds) - 2; i >= 0; i-- {
		r = nodeOf(kinds[i], r)
	}
	first[0] = r
	return r
}

func TestRegexesThatContainThemselves(t *testing.T) {
	star, not := impl.RxStar, impl.RxNot
	for _, kinds := range [][]int{{star}, {not}, {star, not}, {star, star, star}} {
		checkInvalid(t, "an expression that contains itself", ringOf(kinds...))
		checkInvalid(t, "an expression with an Arg that contains itself", nodeOf(impl.RxCat, letterOf("a"), ringOf(kinds...)))
	}
	for _, c := range []struct {
		a, b []int
		want bool
	}{
		{[]int{star}, []int{star}, true},
		{[]int{star}, []int{star, star}, true},
		{[]int{star, star, star}, []int{star, star}, true},
		{[]int{star, not}, []int{star, not, star, not}, true},
		{slices.Repeat([]int{star}, 100003), slices.Repeat([]int{star}, 100019), true},
		{[]int{star}, []int{not}, false},
		{[]int{star}, []int{star, not}, false},
		{[]int{star, star}, []int{star, star, not}, false},
		{[]int{star, not}, []int{not, star}, false},
		{slices.Repeat([]int{star}, 100003), append(slices.Repeat([]int{star}, 100003), not), false},
	} {
		if impl.EqualRegex(ringOf(c.a...), ringOf(c.b...)) != c.want || impl.EqualRegex(ringOf(c.b...), ringOf(c.a...)) != c.want {
			t.Errorf("EqualRegex of rings of %d and %d nodes is not %v", len(c.a), len(c.b), c.want)
		}
	}
	r := ringOf(star)
	if !impl.EqualRegex(r, r) || impl.EqualRegex(r, starsAround(1000, letterOf("a"))) {
		t.Error("EqualRegex of a ring is wrong")
	}
}

func TestRegexFunctionsKeepTheirArguments(t *testing.T) {
	withUnused := func() impl.Regex {
		all := []impl.Regex{nodeOf(impl.RxStar, letterOf("a")), letterOf("b"), {Kind: 77, Letter: "unused"}}
		return impl.Regex{Kind: impl.RxOr, Args: all[:2]}
	}
	r, s := withUnused(), withUnused()
	impl.IsValidRegex(r)
	impl.EqualRegex(r, s)
	impl.FormatRegex(r)
	for _, got := range []impl.Regex{r, s} {
		if !reflect.DeepEqual(got, withUnused()) || !reflect.DeepEqual(got.Args[:3], withUnused().Args[:3]) {
			t.Errorf("an argument is changed to %v", got)
		}
	}
}

func TestParseRegexGivesNewMemory(t *testing.T) {
	const text = "((ab)(ab))"
	first, _ := impl.ParseRegex(text)
	second, _ := impl.ParseRegex(text)
	_ = append(first.Args[:1], letterOf("c"))
	_ = append(first.Args[0].Args, letterOf("c"))
	first.Args[0].Args[0] = letterOf("c")
	first.Args[0].Args[1] = letterOf("c")
	if got := textWithoutLimits(second); got != text {
		t.Errorf("results of ParseRegex share memory: %q", got)
	}
	if got := textWithoutLimits(first.Args[0]); got != "(cc)" {
		t.Errorf("the first Arg is %q", got)
	}
	if again, ok := impl.ParseRegex(text); !ok || textWithoutLimits(again) != text {
		t.Errorf("ParseRegex(%q) = %v, %v", text, again, ok)
	}
}
