package tests

import (
	"math"
	"math/rand/v2"
	"reflect"
	"strings"
	"testing"
	"time"

	"loop.example/g00582/impl"
)

func parsed(t *testing.T, text string) impl.Regex {
	t.Helper()
	r, ok := impl.ParseRegex(text)
	if !ok {
		t.Fatalf("ParseRegex(%q) is not accepted", text)
	}
	return r
}

type language map[string]bool

// languageUpTo returns the words of at most n letters, as the document defines the language, for expressions of any size.
func languageUpTo(r impl.Regex, n int) language {
	var args []language
	for _, arg := range r.Args {
		args = append(args, languageUpTo(arg, n))
	}
	switch r.Kind {
	case impl.RxEmpty:
		return language{"": true}
	case impl.RxLetter:
		return language{r.Letter: true}.upTo(n)
	case impl.RxAny:
		return language{"a": true, "b": true, "c": true}.upTo(n)
	case impl.RxCat:
		return args[0].followedBy(args[1], n)
	case impl.RxStar:
		return args[0].repeated(n)
	}
	all := language{}
	for _, s := range stringsOver("abc", n) {
		switch r.Kind {
		case impl.RxOr:
			all[s] = args[0][s] || args[1][s]
		case impl.RxAnd:
			all[s] = args[0][s] && args[1][s]
		case impl.RxNot:
			all[s] = !args[0][s]
		}
	}
	return all.upTo(n)
}

func (l language) upTo(n int) language {
	list := language{}
	for s, belongs := range l {
		if belongs && len(s) <= n {
			list[s] = true
		}
	}
	return list
}

func (l language) followedBy(other language, n int) language {
	list := language{}
	for s := range l {
		for rest := range other {
			if len(s)+len(rest) <= n {
				list[s+rest] = true
			}
		}
	}
	return list
}

func (l language) repeated(n int) language {
	all := language{"": true}
	for size := 0; size < len(all); {
		size = len(all)
		for s := range all.followedBy(l, n) {
			all[s] = true
		}
	}
	return all
}

// partsTable tells for each i and j whether s[i:j] belongs to the language; it has no limit for the length of s.
func partsTable(r impl.Regex, s string) [][]bool {
	var args [][][]bool
	for _, arg := range r.Args {
		args = append(args, partsTable(arg, s))
	}
	belongs := func(i int, j int) bool {
		switch r.Kind {
		case impl.RxEmpty, impl.RxStar:
			return i == j
		case impl.RxLetter:
			return s[i:j] == r.Letter
		case impl.RxAny:
			return j == i+1
		case impl.RxOr:
			return args[0][i][j] || args[1][i][j]
		case impl.RxAnd:
			return args[0][i][j] && args[1][i][j]
		case impl.RxNot:
			return !args[0][i][j]
		case impl.RxCat:
			for k := i; k <= j; k++ {
				if args[0][i][k] && args[1][k][j] {
					return true
				}
			}
		}
		return false
	}
	table := make([][]bool, len(s)+1)
	for i := range table {
		table[i] = make([]bool, len(s)+1)
		for j := i; j <= len(s); j++ {
			table[i][j] = belongs(i, j)
		}
	}
	if r.Kind == impl.RxStar {
		addPaths(table, args[0])
	}
	return table
}

// addPaths adds what is reached by one edge or more, by the algorithm of Warshall.
func addPaths(table [][]bool, edges [][]bool) {
	for i := range table {
		for j := range table {
			table[i][j] = table[i][j] || edges[i][j]
		}
	}
	for k := range table {
		for i := range table {
			for j := range table {
				table[i][j] = table[i][j] || table[i][k] && table[k][j]
			}
		}
	}
}

// randomExpression has the number of nodes.
func randomExpression(random *rand.Rand, nodes int) impl.Regex {
	if nodes == 1 {
		return []impl.Regex{
			letterOf("a"), letterOf("a"), letterOf("b"), letterOf("c"), leafOf(impl.RxAny), leafOf(impl.RxEmpty), leafOf(impl.RxNone),
		}[random.IntN(7)]
	}
	if nodes == 2 || random.IntN(3) == 0 {
		return nodeOf([]int{impl.RxStar, impl.RxNot}[random.IntN(2)], randomExpression(random, nodes-1))
	}
	left := 1 + random.IntN(nodes-2)
	kind := []int{impl.RxCat, impl.RxCat, impl.RxOr, impl.RxAnd}[random.IntN(4)]
	return nodeOf(kind, randomExpression(random, left), randomExpression(random, nodes-1-left))
}

// expressionsOfSize returns n expressions of the number of nodes and the depth, always the same ones.
func expressionsOfSize(n int, nodes int, depth int) []impl.Regex {
	random := rand.New(rand.NewPCG(4, uint64(100*nodes+depth)))
	var list []impl.Regex
	for len(list) < n {
		r := randomExpression(random, nodes)
		if _, d := sizeOf(r); d == depth {
			list = append(list, r)
		}
	}
	return list
}

// withoutTakingLong fails the test if f does not end soon; f must not call FailNow.
func withoutTakingLong(t *testing.T, f func()) {
	t.Helper()
	done := make(chan bool)
	go func() {
		defer close(done)
		f()
	}()
	select {
	case <-done:
	case <-time.After(20 * time.Second):
		t.Fatal("takes too long")
	}
}

func checkMatch(t *testing.T, r impl.Regex, s string, want bool) {
	t.Helper()
	if got := impl.MatchRegex(r, s); got != want {
		t.Errorf("MatchRegex(%.60s, %.40q) = %v", textWithoutLimits(r), s, got)
	}
}

func TestMatchRegexForms(t *testing.T) {
	for _, c := range []struct {
		text    string
		in, out []string
	}{
		{"0", nil, []string{"", "a", "b", "c", "aa"}},
		{"1", []string{""}, []string{"a", "b", "c", "aa"}},
		{"a", []string{"a"}, []string{"", "b", "c", "aa", "ab", "ba"}},
		{"b", []string{"b"}, []string{"", "a", "c", "bb", "ab", "ba"}},
		{"c", []string{"c"}, []string{"", "a", "b", "cc", "ac", "ca"}},
		{".", []string{"a", "b", "c"}, []string{"", "aa", "ab", "abc"}},
		{"(ab)", []string{"ab"}, []string{"", "a", "b", "ba", "abb", "aab", "abab"}},
		{"(a|b)", []string{"a", "b"}, []string{"", "c", "ab", "ba", "aa"}},
		{"(a|1)", []string{"", "a"}, []string{"b", "aa"}},
		{"(a|0)", []string{"a"}, []string{"", "b", "aa"}},
		{"(a&b)", nil, []string{"", "a", "b", "ab"}},
		{"(.&b)", []string{"b"}, []string{"", "a", "c", "bb"}},
		{"(*a&*(aa))", []string{"", "aa", "aaaa"}, []string{"a", "aaa", "b", "aab"}},
		{"*a", []string{"", "a", "aa", "aaaaaaa"}, []string{"b", "ab", "ba", "aabaa"}},
		{"*(ab)", []string{"", "ab", "abab", "ababab"}, []string{"a", "b", "aba", "abba", "ba"}},
		{"*(a|(bc))", []string{"", "a", "bc", "abc", "bca", "bcbcaa"}, []string{"b", "c", "ab", "bac", "abcc"}},
		{"!0", []string{"", "a", "b", "c", "abcabc"}, nil},
		{"!1", []string{"a", "b", "c", "abcabc"}, []string{""}},
		{"!a", []string{"", "b", "c", "aa", "ab", "ba"}, []string{"a"}},
		{"!.", []string{"", "aa", "ab", "cba"}, []string{"a", "b", "c"}},
		{"!!b", []string{"b"}, []string{"", "a", "c", "bb"}},
		{"!(ab)", []string{"", "a", "b", "ba", "aba"}, []string{"ab"}},
		{"!*a", []string{"b", "c", "ab", "ba", "aac"}, []string{"", "a", "aa", "aaa"}},
		{"!*.", nil, []string{"", "a", "b", "c", "abcabc"}},
		{"!*1", []string{"a", "b", "aa"}, []string{""}},
		{"!(a|*b)", []string{"c", "aa", "ab", "ba"}, []string{"", "a", "b", "bb"}},
	} {
		r := parsed(t, c.text)
		for _, s := range c.in {
			checkMatch(t, r, s, true)
		}
		for _, s := range c.out {
			checkMatch(t, r, s, false)
		}
	}
}

func TestMatchRegexRepetitionsOfEmptyWords(t *testing.T) {
	for _, c := range []struct {
		text    string
		in, out []string
	}{
		{"*0", []string{""}, []string{"a", "b", "c", "aa"}},
		{"*1", []string{""}, []string{"a", "b", "c", "aa"}},
		{"**0", []string{""}, []string{"a", "aa"}},
		{"**1", []string{""}, []string{"a", "aa"}},
		{"**a", []string{"", "a", "aa", "aaa"}, []string{"b", "ab", "aba"}},
		{"*****a", []string{"", "a", "aa", "aaaaaaaaaaaa"}, []string{"b", "ab", "aaaaab", "baaaaa"}},
		{"*(a|1)", []string{"", "a", "aa", "aaa"}, []string{"b", "ab", "aba"}},
		{"*(1|a)", []string{"", "a", "aa", "aaa"}, []string{"b", "ab", "aba"}},
		{"*(*a*b)", []string{"", "a", "b", "ba", "abab", "bbaab"}, []string{"c", "abc", "cab"}},
		{"*(*(aa)*b)", []string{"", "b", "aa", "baab", "aabaa"}, []string{"a", "aba", "baaab"}},
		{"*((a|1)(b|1))", []string{"", "a", "b", "ba", "ab", "bbaa"}, []string{"c", "ac", "cb"}},
		{"*((a|1)&(b|1))", []string{""}, []string{"a", "b", "ab"}},
		{"*!a", []string{"", "b", "aa", "ab", "aaa", "aba"}, []string{"a"}},
		{"*!!a", []string{"", "a", "aa", "aaa"}, []string{"b", "ab"}},
		{"*!1", []string{"", "a", "ab", "abc"}, nil},
		{"*!.", []string{"", "aa", "aaa", "abcab"}, []string{"a", "b", "c"}},
		{"*!*a", []string{"", "b", "ab", "ba", "bb", "aba"}, []string{"a", "aa", "aaa"}},
		{"*(*a!*a)", []string{"", "b", "ab", "aab", "bab", "ba", "baa"}, []string{"a", "aa"}},
		{"!**a", []string{"b", "ab"}, []string{"", "a", "aa"}},
		{"*(1*a)", []string{"", "a", "aa"}, []string{"b", "ab"}},
		{"(*a*a)", []string{"", "a", "aa", "aaaaa"}, []string{"b", "aba"}},
	} {
		r := parsed(t, c.text)
		for _, s := range c.in {
			checkMatch(t, r, s, true)
		}
		for _, s := range c.out {
			checkMatch(t, r, s, false)
		}
	}
}

func TestMatchRegexDivisions(t *testing.T) {
	for _, c := range []struct {
		text    string
		in, out []string
	}{
		{"(1a)", []string{"a"}, []string{"", "b", "aa"}},
		{"(a1)", []string{"a"}, []string{"", "b", "aa"}},
		{"(11)", []string{""}, []string{"a", "aa"}},
		{"(0a)", nil, []string{"", "a", "aa"}},
		{"(a0)", nil, []string{"", "a", "aa"}},
		{"(0*.)", nil, []string{"", "a", "abc"}},
		{"(*.0)", nil, []string{"", "a", "abc"}},
		{"((a|1)b)", []string{"b", "ab"}, []string{"", "a", "aab", "bb"}},
		{"(a(b|1))", []string{"a", "ab"}, []string{"", "b", "abb", "aa"}},
		{"((a|1)(a|1))", []string{"", "a", "aa"}, []string{"b", "aaa"}},
		{"(*a*b)", []string{"", "a", "b", "ab", "aabbb"}, []string{"ba", "aba", "abab"}},
		// Only the last division fits: the left part must take the whole word, or all but the last letters of it.
		{"(*a1)", []string{"", "a", "aaaaa"}, []string{"b", "aab"}},
		{"(*aa)", []string{"a", "aa", "aaaaa"}, []string{"", "b", "aab"}},
		{"(*.b)", []string{"b", "bb", "abcb", "bbbbb"}, []string{"", "a", "bbba"}},
		{"(*.(ba))", []string{"ba", "baba", "cbba"}, []string{"", "a", "bab", "baab"}},
		{"(*(a|b)(b&!1))", []string{"b", "bb", "abab"}, []string{"", "a", "ba", "cb"}},
		{"((a|(ab))(c|(bc)))", []string{"ac", "abc", "abbc"}, []string{"ab", "bc", "abcc"}},
		{"((a|(aa))(a|((aa)b)))", []string{"aa", "aaa", "aaab", "aaaab"}, []string{"a", "aab", "aaaa", "aaaaab"}},
		// Only the first division fits: the left part must take nothing.
		{"(*ab)", []string{"b", "ab", "aab"}, []string{"", "a", "ba", "bb"}},
		{"(*a(ab))", []string{"ab", "aab"}, []string{"b", "aabb", "a"}},
		{"(*.!*.)", nil, []string{"", "a", "abc"}},
		{"(!aa)", []string{"a", "ba", "aaa", "aba"}, []string{"", "aa", "b", "ab"}},
		{"(a!a)", []string{"a", "ab", "aaa", "abb"}, []string{"", "aa", "b", "ba"}},
		{"(!a!a)", []string{"", "aa", "b", "aaa", "ab", "ba"}, []string{"a"}},
		{"(!1!1)", []string{"aa", "ab", "abc"}, []string{"", "a", "b"}},
		{"(!0!0)", []string{"", "a", "ab"}, nil},
		{"(!.!0)", []string{"", "a", "ab"}, nil},
		{"(!*.*.)", nil, []string{"", "a", "ab"}},
		{"((*.b)!*.)", nil, []string{"", "b", "ab"}},
		{"(*a!*a)", []string{"b", "ab", "ba", "aaba"}, []string{"", "a", "aa"}},
	} {
		r := parsed(t, c.text)
		for _, s := range c.in {
			checkMatch(t, r, s, true)
		}
		for _, s := range c.out {
			checkMatch(t, r, s, false)
		}
	}
}

func TestMatchRegexEveryShortWord(t *testing.T) {
	words := stringsOver("abc", 4)
	for _, e := range expressionsUpTo(4) {
		belongs := languageUpTo(e.regex, 4)
		for _, s := range words {
			checkMatch(t, e.regex, s, belongs[s])
		}
	}
}

func TestMatchRegexOfLargeExpressions(t *testing.T) {
	words := stringsOver("abc", 4)
	for nodes := 5; nodes <= 16; nodes++ {
		for _, r := range expressionsOfSize(20, nodes, min(6, nodes-2)) {
			belongs := languageUpTo(r, 4)
			for _, s := range words {
				checkMatch(t, r, s, belongs[s])
			}
		}
	}
}

// longestWords have exactly MaxWord letters.
func longestWords() []string {
	a := strings.Repeat("a", 30)
	list := []string{a, a[1:] + "b", "b" + a[1:], a[:15] + "c" + a[:14], strings.Repeat("abc", 10), strings.Repeat("ab", 15), strings.Repeat("c", 30)}
	random := rand.New(rand.NewPCG(30, 3))
	for range 3 {
		s := make([]byte, 30)
		for i := range s {
			s[i] = "abc"[random.IntN(3)]
		}
		list = append(list, string(s))
	}
	return list
}

func TestMatchRegexLongestWords(t *testing.T) {
	for text, unit := range map[string]int{"*a": 1, "*.": 1, "*(aa)": 2, "*(..)": 2, "*(a(aa))": 3, "*((aa)(a.))": 4, "*((aa)(a(aa)))": 5, "*((a(a.))((.a)(aa)))": 7} {
		r := parsed(t, text)
		not := nodeOf(impl.RxNot, r)
		for n := range 31 {
			s := strings.Repeat("a", n)
			checkMatch(t, r, s, n%unit == 0)
			checkMatch(t, not, s, n%unit != 0)
		}
	}
	for _, text := range []string{"*a", "*.", "!0", "!1", "!a", "!(!0b)", "*(aa)", "(!b!c)", "(*a*a)", "(*.a)", "*!1", "(!0|a)", "(!0&*a)"} {
		r := parsed(t, text)
		checkMatch(t, r, strings.Repeat("a", 30), true)
		checkMatch(t, r, strings.Repeat("a", 31), false)
		checkMatch(t, r, strings.Repeat("a", 32), false)
	}
	for _, s := range longestWords() {
		checkMatch(t, parsed(t, "!0"), s, true)
		checkMatch(t, parsed(t, "!0"), s+"a", false)
		checkMatch(t, parsed(t, "*."), "a"+s, false)
		checkMatch(t, parsed(t, "!*."), s, false)
		checkMatch(t, parsed(t, "!*."), s+"a", false)
	}
}

func TestMatchRegexDoesNotTakeLong(t *testing.T) {
	// In these expressions, a word can be divided in exponentially many ways.
	list := []impl.Regex{
		parsed(t, "*****a"), parsed(t, "*****."), parsed(t, "*(*(aa)*(aa))"), parsed(t, "*(*(a.)|*(.a))"), parsed(t, "*!*!*a"), parsed(t, "!*!*!b"), parsed(t, "*!!*!a"),
		parsed(t, "(*(*a*a)b)"), parsed(t, "*(*(*a*a)*a)"), parsed(t, "*((*a|*a)*(a|*a))"), parsed(t, "((*.*.)((*.*.)(*.b)))"),
		parsed(t, "*(*(a|*a)|b)"), parsed(t, "!((*!a*!a)(*!b*!b))"), parsed(t, "*(!*!aa)"), parsed(t, "*(*.&*(*.&*.))"),
	}
	list = append(list, expressionsOfSize(400, 16, 6)...)
	withoutTakingLong(t, func() {
		for _, r := range list {
			for _, s := range longestWords() {
				checkMatch(t, r, s, partsTable(r, s)[0][30])
			}
		}
	})
}

// acceptingAll are expressions of which each accepts all words.
var acceptingAll = []string{"*.", "!0", "!!*.", "**.", "(!a|a)", "(!0!0)", "*!1", "(!0|0)", "(*.&!0)"}

func TestMatchRegexOfStringsThatAreNoWords(t *testing.T) {
	for _, text := range acceptingAll {
		r := parsed(t, text)
		for _, s := range stringsOver("abc", 3) {
			checkMatch(t, r, s, true)
		}
		for _, s := range notWords {
			checkMatch(t, r, s, false)
		}
	}
	for i := range 256 {
		other := string([]byte{byte(i)})
		_, isLetter := letterNumbers[byte(i)]
		checkMatch(t, leafOf(impl.RxAny), other, isLetter)
		checkMatch(t, parsed(t, "!1"), other, isLetter)
		checkMatch(t, parsed(t, "*."), other, isLetter)
		checkMatch(t, parsed(t, "!1"), "a"+other, isLetter)
		checkMatch(t, parsed(t, "!1"), other+"c", isLetter)
	}
	for _, e := range expressionsUpTo(3) {
		for _, s := range []string{"d", "ad", "da", "\x00", "\xff", "\u00e9", "X", "#", "0", "1", ".", strings.Repeat("a", 31)} {
			checkMatch(t, e.regex, s, false)
		}
	}
}

// checkRejectsAll expects what the document says of an expression that is not valid.
func checkRejectsAll(t *testing.T, name string, r impl.Regex) {
	t.Helper()
	for _, s := range []string{"", "a", "b", "c", "aa", "ab", "abc", "d", "ad", strings.Repeat("a", 30), strings.Repeat("a", 31)} {
		if impl.MatchRegex(r, s) {
			t.Errorf("MatchRegex accepts %q for %s", s, name)
		}
	}
	if impl.IsNullable(r) {
		t.Errorf("IsNullable for %s", name)
	}
	for _, letter := range []string{"a", "b", "c", "", "d"} {
		if got := impl.DerivativeOf(r, letter); !isZero(got) {
			t.Errorf("DerivativeOf for %s is %v", name, got)
		}
	}
}

func isZero(r impl.Regex) bool { return r.Kind == 0 && r.Letter == "" && len(r.Args) == 0 }

func TestInvalidRegexesDoNotMatch(t *testing.T) {
	all, a := leafOf(impl.RxAny), letterOf("a")
	every := nodeOf(impl.RxNot, leafOf(impl.RxNone))
	empty := leafOf(impl.RxEmpty)
	for name, r := range invalidNodes() {
		checkRejectsAll(t, name, r)
		for _, other := range []impl.Regex{
			nodeOf(impl.RxStar, r), nodeOf(impl.RxNot, r), nodeOf(impl.RxNot, nodeOf(impl.RxNot, r)),
			nodeOf(impl.RxOr, every, r), nodeOf(impl.RxOr, r, every), nodeOf(impl.RxOr, a, r), nodeOf(impl.RxOr, r, all),
			nodeOf(impl.RxAnd, every, r), nodeOf(impl.RxAnd, r, every), nodeOf(impl.RxAnd, leafOf(impl.RxNone), r),
			nodeOf(impl.RxCat, every, r), nodeOf(impl.RxCat, r, every), nodeOf(impl.RxCat, empty, r), nodeOf(impl.RxCat, leafOf(impl.RxNone), r),
			nodeOf(impl.RxCat, nodeOf(impl.RxStar, r), a), nodeOf(impl.RxCat, a, nodeOf(impl.RxStar, r)), starsAround(5, r),
			nodeOf(impl.RxOr, every, nodeOf(impl.RxStar, nodeOf(impl.RxAnd, a, r))),
		} {
			checkRejectsAll(t, name+" inside", other)
		}
	}
}

func TestRegexesBeyondTheLimitsDoNotMatch(t *testing.T) {
	for _, leaf := range []impl.Regex{letterOf("a"), leafOf(impl.RxAny), leafOf(impl.RxEmpty)} {
		checkMatch(t, starsAround(5, leaf), "", true)
		checkRejectsAll(t, "an expression of depth 7", starsAround(6, leaf))
		checkRejectsAll(t, "an expression of depth 8", nodeOf(impl.RxOr, leaf, starsAround(6, leaf)))
	}
	eight := doubled(3, letterOf("a"))
	checkMatch(t, nodeOf(impl.RxStar, eight), "aaa", true)
	checkRejectsAll(t, "an expression of 17 nodes", starsAround(2, eight))
	checkRejectsAll(t, "an expression of 17 nodes with a part that matches", nodeOf(impl.RxOr, letterOf("a"), eight))
	for _, r := range expressionsOfSize(30, 17, 6) {
		checkRejectsAll(t, "an expression of 17 nodes", r)
	}
	for _, r := range expressionsOfSize(30, 12, 7) {
		checkRejectsAll(t, "an expression of depth 7", r)
	}
	withoutTakingLong(t, func() {
		for _, r := range []impl.Regex{starsAround(1000000, letterOf("a")), doubled(64, leafOf(impl.RxAny)), ringOf(impl.RxStar), ringOf(impl.RxNot, impl.RxStar)} {
			checkRejectsAll(t, "a very large expression", r)
			checkRejectsAll(t, "an expression with a very large part", nodeOf(impl.RxOr, leafOf(impl.RxAny), r))
			checkRejectsAll(t, "an expression with a very large part", nodeOf(impl.RxCat, r, leafOf(impl.RxEmpty)))
		}
	})
}

func TestIsNullable(t *testing.T) {
	for text, want := range map[string]bool{
		"0": false, "1": true, "a": false, ".": false, "*0": true, "*1": true, "*a": true, "!0": true, "!1": false, "!a": true, "!*a": false, "!!1": true,
		"(11)": true, "(1a)": false, "(a1)": false, "(ab)": false, "(*a*b)": true, "(1|a)": true, "(a|1)": true, "(a|b)": false, "(1|1)": true,
		"(1&a)": false, "(a&1)": false, "(1&*a)": true, "(a&b)": false, "*(a&b)": true, "(!a!b)": true, "(!1!0)": false,
	} {
		if got := impl.IsNullable(parsed(t, text)); got != want {
			t.Errorf("IsNullable of %s = %v", text, got)
		}
	}
	list := expressionsOfSize(300, 16, 6)
	for _, e := range expressionsUpTo(5) {
		list = append(list, e.regex)
	}
	for _, r := range list {
		got := impl.IsNullable(r)
		if got != impl.MatchRegex(r, "") || got != partsTable(r, "")[0][0] {
			t.Errorf("IsNullable of %s = %v", textWithoutLimits(r), got)
		}
	}
}

func TestDerivativeOfForms(t *testing.T) {
	for text, want := range map[string][3]string{
		"0":             {"0", "0", "0"},
		"1":             {"0", "0", "0"},
		"a":             {"1", "0", "0"},
		"b":             {"0", "1", "0"},
		"c":             {"0", "0", "1"},
		".":             {"1", "1", "1"},
		"(a|b)":         {"(1|0)", "(0|1)", "(0|0)"},
		"(a|a)":         {"(1|1)", "(0|0)", "(0|0)"},
		"(.&b)":         {"(1&0)", "(1&1)", "(1&0)"},
		"!0":            {"!0", "!0", "!0"},
		"!1":            {"!0", "!0", "!0"},
		"!b":            {"!0", "!1", "!0"},
		"!!c":           {"!!0", "!!0", "!!1"},
		"*0":            {"(0*0)", "(0*0)", "(0*0)"},
		"*1":            {"(0*1)", "(0*1)", "(0*1)"},
		"*a":            {"(1*a)", "(0*a)", "(0*a)"},
		"**a":           {"((1*a)**a)", "((0*a)**a)", "((0*a)**a)"},
		"*(a|b)":        {"((1|0)*(a|b))", "((0|1)*(a|b))", "((0|0)*(a|b))"},
		"*!.":           {"(!1*!.)", "(!1*!.)", "(!1*!.)"},
		"(ab)":          {"(1b)", "(0b)", "(0b)"},
		"(0b)":          {"(0b)", "(0b)", "(0b)"},
		"(b0)":          {"(00)", "(10)", "(00)"},
		"(1b)":          {"((0b)|0)", "((0b)|1)", "((0b)|0)"},
		"(b1)":          {"(01)", "(11)", "(01)"},
		"(11)":          {"((01)|0)", "((01)|0)", "((01)|0)"},
		"(*ab)":         {"(((1*a)b)|0)", "(((0*a)b)|1)", "(((0*a)b)|0)"},
		"(*a*b)":        {"(((1*a)*b)|(0*b))", "(((0*a)*b)|(1*b))", "(((0*a)*b)|(0*b))"},
		"(a*b)":         {"(1*b)", "(0*b)", "(0*b)"},
		"(!ab)":         {"((!1b)|0)", "((!0b)|1)", "((!0b)|0)"},
		"(!1b)":         {"(!0b)", "(!0b)", "(!0b)"},
		"((1|a)(b&.))":  {"(((0|1)(b&.))|(0&1))", "(((0|0)(b&.))|(1&1))", "(((0|0)(b&.))|(0&1))"},
		"((1&a)b)":      {"((0&1)b)", "((0&0)b)", "((0&0)b)"},
		"((1a)b)":       {"(((0a)|1)b)", "(((0a)|0)b)", "(((0a)|0)b)"},
		"((11)b)":       {"((((01)|0)b)|0)", "((((01)|0)b)|1)", "((((01)|0)b)|0)"},
		"(a(1b))":       {"(1(1b))", "(0(1b))", "(0(1b))"},
		"*(1a)":         {"(((0a)|1)*(1a))", "(((0a)|0)*(1a))", "(((0a)|0)*(1a))"},
		"((ab)|(*b&.))": {"((1b)|((0*b)&1))", "((0b)|((1*b)&1))", "((0b)|((0*b)&1))"},
	} {
		for i, letter := range []string{"a", "b", "c"} {
			got := checkDerivative(t, parsed(t, text), letter, want[i])
			if !impl.EqualRegex(got, parsed(t, want[i])) {
				t.Errorf("DerivativeOf(%s, %q) is not equal to %s", text, letter, want[i])
			}
		}
	}
}

// derivativeText represents the derivative that the document defines.
func derivativeText(r impl.Regex, letter string) string {
	var text, change []string
	for _, arg := range r.Args {
		text = append(text, textWithoutLimits(arg))
		change = append(change, derivativeText(arg, letter))
	}
	switch r.Kind {
	case impl.RxLetter:
		if r.Letter == letter {
			return "1"
		}
	case impl.RxAny:
		return "1"
	case impl.RxOr:
		return "(" + change[0] + "|" + change[1] + ")"
	case impl.RxAnd:
		return "(" + change[0] + "&" + change[1] + ")"
	case impl.RxNot:
		return "!" + change[0]
	case impl.RxStar:
		return "(" + change[0] + "*" + text[0] + ")"
	case impl.RxCat:
		first := "(" + change[0] + text[1] + ")"
		if partsTable(r.Args[0], "")[0][0] {
			return "(" + first + "|" + change[1] + ")"
		}
		return first
	}
	return "0"
}

func checkDerivative(t *testing.T, r impl.Regex, letter string, want string) impl.Regex {
	t.Helper()
	got := impl.DerivativeOf(r, letter)
	if !hasForms(got) {
		t.Errorf("DerivativeOf(%s, %q) = %v, want %s", textWithoutLimits(r), letter, got, want)
	} else if text := textWithoutLimits(got); text != want {
		t.Errorf("DerivativeOf(%s, %q) = %s, want %s", textWithoutLimits(r), letter, text, want)
	}
	return got
}

// hasForms is IsValidRegex without the limits.
func hasForms(r impl.Regex) bool {
	parts, isKind := partsOfKind[r.Kind]
	if !isKind || len(r.Args) != parts || (r.Kind == impl.RxLetter) == (r.Letter == "") {
		return false
	}
	for _, arg := range r.Args {
		if !hasForms(arg) {
			return false
		}
	}
	return true
}

func TestDerivativeOfEveryExpression(t *testing.T) {
	for _, e := range expressionsUpTo(5) {
		for _, letter := range []string{"a", "b", "c"} {
			checkDerivative(t, e.regex, letter, derivativeText(e.regex, letter))
		}
	}
}

func TestDerivativeOfLargeExpressions(t *testing.T) {
	beyond := 0
	withoutTakingLong(t, func() {
		for nodes := 6; nodes <= 16; nodes++ {
			for _, r := range expressionsOfSize(50, nodes, min(6, nodes-2)) {
				for _, letter := range []string{"a", "b", "c"} {
					if !impl.IsValidRegex(checkDerivative(t, r, letter, derivativeText(r, letter))) {
						beyond++
					}
				}
			}
		}
	})
	if beyond == 0 {
		t.Error("no derivative is beyond the limits")
	}
}

func TestDerivativeOfAStringThatIsNoLetter(t *testing.T) {
	list := append([]string{"", "aa", "ab", "abc", "a ", " a", "ad", "a\x00", "aaa"}, notWords...)
	for i := range 256 {
		if _, isLetter := letterNumbers[byte(i)]; !isLetter {
			list = append(list, string([]byte{byte(i)}))
		}
	}
	for _, e := range expressionsUpTo(3) {
		for _, letter := range list {
			if got := impl.DerivativeOf(e.regex, letter); !isZero(got) {
				t.Errorf("DerivativeOf(%s, %.40q) = %v", e.text, letter, got)
			}
		}
	}
}

// placesOf adds the addresses of the elements of all Args, the unused ones too, and counts them.
func placesOf(r impl.Regex, places map[*impl.Regex]bool) int {
	count := cap(r.Args)
	all := r.Args[:cap(r.Args)]
	for i := range all {
		places[&all[i]] = true
	}
	for _, arg := range r.Args {
		count += placesOf(arg, places)
	}
	return count
}

func TestDerivativeOfGivesNewMemory(t *testing.T) {
	shared := nodeOf(impl.RxStar, nodeOf(impl.RxOr, letterOf("a"), leafOf(impl.RxAny)))
	list := []impl.Regex{
		nodeOf(impl.RxCat, shared, shared), nodeOf(impl.RxOr, shared, shared), nodeOf(impl.RxAnd, shared, shared),
		nodeOf(impl.RxStar, nodeOf(impl.RxStar, shared)), nodeOf(impl.RxNot, shared), doubled(3, letterOf("a")),
		nodeOf(impl.RxCat, shared, nodeOf(impl.RxCat, shared, letterOf("a"))),
		nodeOf(impl.RxStar, nodeOf(impl.RxCat, leafOf(impl.RxEmpty), nodeOf(impl.RxStar, letterOf("a")))),
	}
	for _, e := range expressionsUpTo(4) {
		list = append(list, e.regex)
	}
	list = append(list, expressionsOfSize(100, 16, 6)...)
	for _, r := range list {
		text := textWithoutLimits(r)
		for _, letter := range []string{"a", "b", "c"} {
			got, again := impl.DerivativeOf(r, letter), impl.DerivativeOf(r, letter)
			places := map[*impl.Regex]bool{}
			count := placesOf(got, places) + placesOf(again, places)
			if len(places) != count {
				t.Fatalf("DerivativeOf(%s, %q) shares memory with itself", text, letter)
			}
			of := map[*impl.Regex]bool{}
			placesOf(r, of)
			for place := range of {
				if places[place] {
					t.Fatalf("DerivativeOf(%s, %q) shares memory with its argument", text, letter)
				}
			}
			if textWithoutLimits(r) != text {
				t.Fatalf("DerivativeOf(%s, %q) changes its argument", text, letter)
			}
		}
	}
}

func TestMatchFunctionsKeepTheirArguments(t *testing.T) {
	for _, kind := range []int{impl.RxCat, impl.RxOr, impl.RxAnd} {
		withUnused := func() impl.Regex {
			star := []impl.Regex{letterOf("a"), {Kind: 77, Letter: "unused"}, {Kind: 78}}
			all := []impl.Regex{{Kind: impl.RxStar, Args: star[:1]}, letterOf("b"), {Kind: 79, Letter: "unused"}, {Kind: 80}}
			return impl.Regex{Kind: kind, Args: all[:2]}
		}
		r := withUnused()
		for _, s := range []string{"", "a", "b", "ab", "d", strings.Repeat("a", 30)} {
			impl.MatchRegex(r, s)
			impl.IsNullable(r)
			impl.DerivativeOf(r, s)
		}
		want := withUnused()
		if !reflect.DeepEqual(r.Args[:4], want.Args[:4]) || !reflect.DeepEqual(r.Args[0].Args[:3], want.Args[0].Args[:3]) {
			t.Errorf("an argument is changed to %v", r)
		}
	}
}

func TestNilAndEmptyArgsMatchAlike(t *testing.T) {
	for _, e := range expressionsUpTo(3) {
		with := copyOf(e.regex)
		for _, s := range stringsOver("abc", 3) {
			checkMatch(t, with, s, impl.MatchRegex(e.regex, s))
		}
		if impl.IsNullable(with) != impl.IsNullable(e.regex) || !impl.EqualRegex(impl.DerivativeOf(with, "a"), impl.DerivativeOf(e.regex, "a")) {
			t.Errorf("%s differs with an empty slice of Args", e.text)
		}
	}
	for _, kind := range []int{impl.RxCat, impl.RxOr, impl.RxAnd, impl.RxStar, impl.RxNot, 0, 10, math.MinInt} {
		checkRejectsAll(t, "an empty slice of Args", impl.Regex{Kind: kind, Args: []impl.Regex{}})
	}
}

func TestWordsOfDerivatives(t *testing.T) {
	var list []impl.Regex
	for _, e := range expressionsUpTo(4) {
		list = append(list, e.regex)
	}
	for nodes := 5; nodes <= 16; nodes++ {
		list = append(list, expressionsOfSize(60, nodes, min(5, nodes-2))...)
	}
	words := stringsOver("abc", 4)
	for _, s := range longestWords() {
		words = append(words, s[1:])
	}
	large := 0
	withoutTakingLong(t, func() {
		for _, r := range list {
			for _, letter := range []string{"a", "b", "c"} {
				d := impl.DerivativeOf(r, letter)
				if !impl.IsValidRegex(d) {
					continue
				}
				if n, _ := sizeOf(r); n > 8 {
					large++
				}
				for _, s := range words {
					checkMatch(t, d, s, impl.MatchRegex(r, letter+s))
				}
			}
		}
	})
	if large < 20 {
		t.Errorf("only %d derivatives of more than 8 nodes are valid", large)
	}
}

func TestRepeatedDerivatives(t *testing.T) {
	for _, e := range expressionsUpTo(3) {
		for _, s := range stringsOver("abc", 3) {
			r := e.regex
			for i := range s {
				r = impl.DerivativeOf(r, s[i:i+1])
			}
			if impl.IsValidRegex(r) && impl.IsNullable(r) != impl.MatchRegex(e.regex, s) {
				t.Errorf("the derivative %s of %s does not tell whether %q matches", textWithoutLimits(r), e.text, s)
			}
		}
	}
}
