package tests

import (
	"cmp"
	"fmt"
	"math"
	"math/rand/v2"
	"reflect"
	"runtime"
	"slices"
	"strings"
	"sync"
	"testing"
	"time"

	"loop.example/g00582/impl"
)

// The functions from here on are second ways to the results. They take constraints whose expressions are finite.

func boundByCount(p impl.Problem) int {
	if !isProblemByFields(p) {
		return -1
	}
	return []int{5, 5, 3, 2}[len(varsOfAll(p))]
}

// modelsBySorting returns all models up to the bound. It goes through the values in another order, from the last
// variable to the first one and from the longest words to the shortest ones, and then sorts.
func modelsBySorting(p impl.Problem) []impl.Values {
	if !isProblemByFields(p) {
		return nil
	}
	words := stringsOver("cba", boundByCount(p))
	slices.Reverse(words)
	wordsFor := func(name string) []string {
		if strings.Contains(varsOfAll(p), name) {
			return words
		}
		return []string{""}
	}
	var list []impl.Values
	for _, z := range wordsFor("Z") {
		for _, y := range wordsFor("Y") {
			for _, x := range wordsFor("X") {
				v := impl.Values{X: x, Y: y, Z: z}
				if !slices.ContainsFunc(p.List, func(c impl.Constraint) bool { return !holdsByTables(c, v) }) {
					list = append(list, v)
				}
			}
		}
	}
	slices.SortFunc(list, func(v impl.Values, w impl.Values) int {
		return cmp.Or(orderOf(v.X, w.X), orderOf(v.Y, w.Y), orderOf(v.Z, w.Z))
	})
	return list
}

// orderOf is the length-lexicographic order.
func orderOf(s string, t string) int {
	return cmp.Or(cmp.Compare(len(s), len(t)), cmp.Compare(s, t))
}

// within returns those of the values whose words have at most n letters.
func within(list []impl.Values, n int) []impl.Values {
	var result []impl.Values
	for _, v := range list {
		if len(v.X) <= n && len(v.Y) <= n && len(v.Z) <= n {
			result = append(result, v)
		}
	}
	return result
}

// leastByTotals looks for each total in turn, up to the greatest one of three words of five letters.
func leastByTotals(list []impl.Values) (impl.Values, bool) {
	for total := range 16 {
		for _, v := range list {
			if len(v.X+v.Y+v.Z) == total {
				return v, true
			}
		}
	}
	return impl.Values{}, false
}

// boundsForTests are the bounds at which all problems are searched.
var boundsForTests = []int{math.MinInt, -1, 0, 1, 2, 3, 4, 5, 6, math.MaxInt}

// textOfModels writes each of the values with the names, and no more than the first ones.
func textOfModels(list []impl.Values, names string) string {
	var parts []string
	for _, v := range list[:min(len(list), 60)] {
		parts = append(parts, formattedByBytes(v, names))
	}
	return strings.Join(parts, ",")
}

func checkBoundOf(t *testing.T, p impl.Problem, want int) {
	t.Helper()
	if got := impl.BoundOf(p); got != want {
		t.Errorf("BoundOf(%s) = %d, want %d", nameOfProblem(p), got, want)
	}
}

// checkSearch expects exactly these models up to a bound, in this order.
func checkSearch(t *testing.T, p impl.Problem, n int, want []impl.Values) {
	t.Helper()
	if got := impl.ModelsUpTo(p, n); !slices.Equal(got, want) {
		t.Errorf("ModelsUpTo(%s, %d) has %d models, %s, want %d, %s", nameOfProblem(p), n, len(got), textOfModels(got, "XYZ"), len(want), textOfModels(want, "XYZ"))
	}
	var first impl.Values
	if len(want) > 0 {
		first = want[0]
	}
	if got, ok := impl.FirstModel(p, n); got != first || ok != (len(want) > 0) {
		t.Errorf("FirstModel(%s, %d) = %q, %v, want %q", nameOfProblem(p), n, got, ok, first)
	}
	least, found := leastByTotals(want)
	if got, ok := impl.LeastModel(p, n); got != least || ok != found {
		t.Errorf("LeastModel(%s, %d) = %q, %v, want %q, %v", nameOfProblem(p), n, got, ok, least, found)
	}
}

// checkAnySearch compares the results for one problem with the second ways.
func checkAnySearch(t *testing.T, p impl.Problem, bounds ...int) {
	t.Helper()
	checkBoundOf(t, p, boundByCount(p))
	models := modelsBySorting(p)
	for _, n := range bounds {
		checkSearch(t, p, n, within(models, n))
	}
}

// checkNoSearch expects what the document says of a problem that is not valid.
func checkNoSearch(t *testing.T, p impl.Problem, bounds ...int) {
	t.Helper()
	checkBoundOf(t, p, -1)
	for _, n := range bounds {
		checkSearch(t, p, n, nil)
	}
}

// textsOf splits a text at commas.
func textsOf(text string) []string {
	if text == "" {
		return nil
	}
	return strings.Split(text, ",")
}

func TestBoundOf(t *testing.T) {
	for text, want := range map[string]int{
		// No variable: no constraints, terms without one, or Coeffs that are 0.
		"": 5, "- = -": 5, "a = b": 5, "abc in *.": 5, "- out 0": 5, "len 0 0 0 9": 5, "a = a,b != a,c in c,abc out 1,len 0 0 0 -9,- = -": 5,
		// One variable,
		"X = a": 5, "a = Y": 5, "- != Z": 5, "X in 0": 5, "YYY out .": 5, "len 0 0 1 5": 5, "len -9 0 0 5": 5, "X = a,X = b,len 1 0 0 1": 5, "Y = Y,a = b": 5, "XXXXXXXXXXXX = XXXXXXXXXXXX": 5,
		// two,
		"XY = a": 3, "X = Y": 3, "X != Z": 3, "ZY in 1": 3, "aZbX out 1": 3, "len 1 -1 0 5": 3, "len 1 0 1 5": 3, "len 0 2 3 5": 3, "X = a,Y = a": 3, "Z = a,X in .": 3, "Y = a,len 0 0 1 5": 3, "len 1 0 0 1,len 0 1 0 1": 3,
		// and three.
		"XYZ = a": 2, "XY = Z": 2, "X != YZ": 2, "ZYX in 1": 2, "len 1 1 1 5": 2, "len 9 -9 1 -99": 2, "X = a,Y = a,Z = a": 2, "Z = a,YX != a": 2, "X = Y,len 0 0 1 5": 2, "len 1 0 0 1,len 0 1 0 1,Z out 0": 2, "a = a,b = b,c = c,a = b,b = c,XYZ = a": 2,
	} {
		p := problemOfTexts(t, textsOf(text)...)
		checkBoundOf(t, p, want)
		if got := boundByCount(p); got != want {
			t.Errorf("%q has the bound %d in the tests", text, got)
		}
		slices.Reverse(p.List)
		checkBoundOf(t, p, want)
	}
	for n := 1; n <= 12; n++ {
		want := 3
		if n > 6 {
			want = -1
		}
		checkBoundOf(t, impl.Problem{List: slices.Repeat(problemOfTexts(t, "X = Y").List, n)}, want)
	}
}

func TestModelsUpToExamples(t *testing.T) {
	for _, c := range []struct {
		text string
		n    int
		want string
	}{
		// One variable.
		{"aX = Xa", 2, "X=,X=a,X=aa"}, {"aX = Xa", 5, "X=,X=a,X=aa,X=aaa,X=aaaa,X=aaaaa"}, {"aX = Xa,X in (a.)", 5, "X=aa"}, {"X = ab", 2, "X=ab"}, {"Y = ab", 5, "Y=ab"}, {"ab = Z", 3, "Z=ab"},
		{"X in .", 5, "X=a,X=b,X=c"}, {"Y in ((ba)|(c|(a.)))", 5, "Y=c,Y=aa,Y=ab,Y=ac,Y=ba"}, {"Z in *(ab)", 5, "Z=,Z=ab,Z=abab"}, {"YY = abab", 5, "Y=ab"}, {"len 1 0 0 1", 5, "X=,X=a,X=b,X=c"}, {"len 0 1 0 1", 1, "Y=,Y=a,Y=b,Y=c"},
		{"X in *(a|b),len -1 0 0 -2,aX != Xa,X out *b", 2, "X=ab,X=ba"}, {"X = abcba", 5, "X=abcba"}, {"X = ccccc", 6, "X=ccccc"},
		// Two.
		{"X = a,Y = b", 3, "X=a Y=b"}, {"X = Y", 1, "X= Y=,X=a Y=a,X=b Y=b,X=c Y=c"}, {"X != Y,len 1 1 0 1", 3, "X= Y=a,X= Y=b,X= Y=c,X=a Y=,X=b Y=,X=c Y="}, {"X = abc,Z = cba", 3, "X=abc Z=cba"},
		{"XY = ab", 3, "X= Y=ab,X=a Y=b,X=ab Y="}, {"YX = ab", 3, "X= Y=ab,X=b Y=a,X=ab Y="}, {"XZ = ab", 3, "X= Z=ab,X=a Z=b,X=ab Z="}, {"ZX = ab", 3, "X= Z=ab,X=b Z=a,X=ab Z="},
		{"YZ = ab", 3, "Y= Z=ab,Y=a Z=b,Y=ab Z="}, {"ZY = ab", 3, "Y= Z=ab,Y=b Z=a,Y=ab Z="}, {"X != Y,len 1 -1 0 -1,X in (a|b),Y in (aa)", 3, "X=a Y=aa,X=b Y=aa"},
		{"Z in (b|(aa)),X in (1|(c|(ab)))", 3, "X= Z=b,X= Z=aa,X=c Z=b,X=c Z=aa,X=ab Z=b,X=ab Z=aa"},
		// Three.
		{"XYZ = ab", 2, "X= Y= Z=ab,X= Y=a Z=b,X= Y=ab Z=,X=a Y= Z=b,X=a Y=b Z=,X=ab Y= Z="}, {"ZYX = ab", 2, "X= Y= Z=ab,X= Y=b Z=a,X= Y=ab Z=,X=b Y= Z=a,X=b Y=a Z=,X=ab Y= Z="},
		{"Z = ab,Y = c,X = ba", 2, "X=ba Y=c Z=ab"}, {"len 1 1 1 0", 2, "X= Y= Z="}, {"XY = Z,Z = cb", 2, "X= Y=cb Z=cb,X=c Y=b Z=cb,X=cb Y= Z=cb"},
		{"X in (b|c),Y in (b|a),Z in (c|a)", 2, "X=b Y=a Z=a,X=b Y=a Z=c,X=b Y=b Z=a,X=b Y=b Z=c,X=c Y=a Z=a,X=c Y=a Z=c,X=c Y=b Z=a,X=c Y=b Z=c"},
	} {
		p := problemOfTexts(t, textsOf(c.text)...)
		if got := textOfModels(impl.ModelsUpTo(p, c.n), varsOfAll(p)); got != c.want {
			t.Errorf("ModelsUpTo(%s, %d) has %s, want %s", nameOfProblem(p), c.n, got, c.want)
		}
		checkAnySearch(t, p, boundsForTests...)
		slices.Reverse(p.List)
		if got := textOfModels(impl.ModelsUpTo(p, c.n), varsOfAll(p)); got != c.want {
			t.Errorf("ModelsUpTo(%s, %d) has %s, want %s", nameOfProblem(p), c.n, got, c.want)
		}
	}
}

func TestModelsOfProblemsWithoutVariables(t *testing.T) {
	for text, holds := range map[string]bool{
		"": true, "- = -": true, "a = a": true, "a != b": true, "ab in (ab)": true, "- out 0": true, "len 0 0 0 0": true, "- in 1,abc in *.,len 0 0 0 99,a != -": true,
		"a = b": false, "- != -": false, "ab in (ba)": false, "- out 1": false, "len 0 0 0 -1": false, "a = a,b = a": false, "a = b,a = a": false, "a = a,len 0 0 0 -99,- = -": false,
	} {
		p := problemOfTexts(t, textsOf(text)...)
		checkProblemVars(t, p, "")
		for _, n := range slices.Concat(boundsForTests, otherNumbers) {
			if holds && n >= 0 {
				// All variables have the empty word.
				checkSearch(t, p, n, []impl.Values{{}})
			} else {
				checkSearch(t, p, n, nil)
			}
		}
		checkAnySearch(t, p, boundsForTests...)
	}
	checkSearch(t, impl.Problem{}, 0, []impl.Values{{}})
	checkSearch(t, impl.Problem{}, -1, nil)
	checkSearch(t, impl.Problem{List: []impl.Constraint{}}, 3, []impl.Values{{}})
}

func TestModelsOfProblemsWithoutModels(t *testing.T) {
	for _, text := range []string{
		"X != X", "aX = Xb", "Y in 0", "Z out !0", "X = a,X = b", "aY = Y", "len 1 0 0 -1", "len 0 0 0 -1,Z = Z",
		"X = Y,X != Y", "aX = Yb,Y in *b", "XY in 0", "Z = a,X in a,XZ != aa", "len 1 1 0 -1", "len -1 0 1 0,X = a,Z = ab",
		"aXYZ = ZYX", "X = Y,Y = Z,Z = Xa", "XYZ in .,len -1 -1 -1 -2", "a = b,XYZ = XYZ",
		// The models have longer words than are considered.
		"X = aaaaaa", "len -1 0 0 -6", "XX = abcabcabcabc", "X = aaaa,Y = Y", "len -1 -1 0 -7", "Z = aaaa,Y in !0", "len -1 -1 -1 -7", "X = aaa,Y = Z", "len 0 0 -1 -3,X = Y",
	} {
		p := problemOfTexts(t, textsOf(text)...)
		for _, n := range boundsForTests {
			checkSearch(t, p, n, nil)
		}
		checkBoundOf(t, p, boundByCount(p))
	}
}

func TestModelsUpToEachBound(t *testing.T) {
	// All words are models, or those whose total length is the greatest one that is considered.
	for text, counts := range map[string][]int{
		"X = X": {1, 4, 13, 40, 121, 364}, "Y out 0": {1, 4, 13, 40, 121, 364}, "len 0 0 1 99": {1, 4, 13, 40, 121, 364}, "len -1 0 0 -5": {0, 0, 0, 0, 0, 243}, "len 0 -1 0 -4": {0, 0, 0, 0, 81, 324},
		"XY = XY": {1, 16, 169, 1600, 1600, 1600}, "Z != aX": {1, 15, 165, 1587, 1587, 1587}, "YZ in !0": {1, 16, 169, 1600, 1600, 1600}, "len -1 -1 0 -6": {0, 0, 0, 729, 729, 729}, "len 0 -1 -1 -5": {0, 0, 0, 1215, 1215, 1215},
		"XYZ = XYZ": {1, 64, 2197, 2197, 2197, 2197}, "len 1 1 1 99": {1, 64, 2197, 2197, 2197, 2197}, "len -1 -1 -1 -6": {0, 0, 729, 729, 729, 729}, "X out 0,Y = Z": {1, 16, 169, 169, 169, 169},
	} {
		p := problemOfTexts(t, textsOf(text)...)
		for n, count := range counts {
			if got := len(impl.ModelsUpTo(p, n)); got != count {
				t.Errorf("ModelsUpTo(%s, %d) has %d models, want %d", nameOfProblem(p), n, got, count)
			}
		}
		for _, n := range []int{6, 7, 8, 256, math.MaxInt32, 1 << 32, 1<<32 + 1, math.MaxInt - 1, math.MaxInt} {
			if got := len(impl.ModelsUpTo(p, n)); got != counts[5] {
				t.Errorf("ModelsUpTo(%s, %d) has %d models, want %d", nameOfProblem(p), n, got, counts[5])
			}
		}
		for _, n := range []int{-1, -2, -3, -255, math.MinInt32, -1 << 32, -1<<32 + 1, math.MinInt + 1, math.MinInt} {
			checkSearch(t, p, n, nil)
		}
		checkAnySearch(t, p, boundsForTests...)
	}
}

func TestModelsUpToEveryOtherNumber(t *testing.T) {
	for _, text := range []string{"aX = Xa", "Y in *(ab)", "Z = Z", "X = Y", "ZX in *(ab)", "Y != Z,YZ = ZY", "XYZ = aa", "X = ZY,Y in *b"} {
		checkAnySearch(t, problemOfTexts(t, textsOf(text)...), otherNumbers...)
	}
}

// TestOrderOfModels expects each of the values at the place that its words determine.
func TestOrderOfModels(t *testing.T) {
	for n, words := range [][]string{{""}, {"", "a", "b", "c"}, {"", "a", "b", "c", "aa", "ab", "ac", "ba", "bb", "bc", "ca", "cb", "cc"}, stringsOver("abc", 3), stringsOver("abc", 4), stringsOver("abc", 5)} {
		k := len(words)
		check := func(text string, count int, at func(i int) impl.Values) {
			t.Helper()
			p := problemOfTexts(t, textsOf(text)...)
			got := impl.ModelsUpTo(p, n)
			if len(got) != count {
				t.Fatalf("ModelsUpTo(%s, %d) has %d models, want %d", text, n, len(got), count)
			}
			for i := range got {
				if got[i] != at(i) {
					t.Fatalf("model %d of ModelsUpTo(%s, %d) is %q, want %q", i, text, n, got[i], at(i))
				}
			}
		}
		check("X = X", k, func(i int) impl.Values { return impl.Values{X: words[i]} })
		check("Y = Y", k, func(i int) impl.Values { return impl.Values{Y: words[i]} })
		check("Z = Z", k, func(i int) impl.Values { return impl.Values{Z: words[i]} })
		if n <= 3 {
			check("YX = YX", k*k, func(i int) impl.Values { return impl.Values{X: words[i/k], Y: words[i%k]} })
			check("Z = Z,X = X", k*k, func(i int) impl.Values { return impl.Values{X: words[i/k], Z: words[i%k]} })
			check("len 0 1 1 99", k*k, func(i int) impl.Values { return impl.Values{Y: words[i/k], Z: words[i%k]} })
		}
		if n <= 2 {
			for _, text := range []string{"XYZ out 0", "ZYX out 0", "YZX out 0", "Z = Z,X = X,Y = Y"} {
				check(text, k*k*k, func(i int) impl.Values {
					return impl.Values{X: words[i/k/k], Y: words[i/k%k], Z: words[i%k]}
				})
			}
		}
	}
}

func TestVariablesThatDoNotOccurHaveTheEmptyWord(t *testing.T) {
	for vars, texts := range map[string][]string{
		"": {"", "a = a"}, "X": {"X out 0", "len 1 0 0 99"}, "Y": {"Y out 0", "len 0 1 0 99"}, "Z": {"Z out 0", "len 0 0 1 99"},
		"XY": {"XY out 0", "len 1 2 0 99"}, "XZ": {"XZ out 0", "len 1 0 2 99"}, "YZ": {"YZ out 0", "len 0 1 2 99"}, "XYZ": {"XYZ out 0", "len 1 2 3 99"},
	} {
		for _, text := range texts {
			p := problemOfTexts(t, textsOf(text)...)
			seen := map[byte]map[string]bool{'X': {}, 'Y': {}, 'Z': {}}
			for _, v := range impl.ModelsUpTo(p, 1) {
				for name, word := range tableOf(v) {
					seen[name][word] = true
				}
			}
			for name, words := range seen {
				want := map[string]bool{"": true}
				if strings.IndexByte(vars, name) >= 0 {
					want = map[string]bool{"": true, "a": true, "b": true, "c": true}
				}
				if !reflect.DeepEqual(words, want) {
					t.Errorf("%c has the words %v in the models of %s", name, words, text)
				}
			}
			// Each word that is allowed is there, for all variables together.
			if got, want := len(impl.ModelsUpTo(p, 1)), 1<<(2*len(vars)); got != want {
				t.Errorf("ModelsUpTo(%s, 1) has %d models, want %d", text, got, want)
			}
		}
	}
}

func TestFirstAndLeastModel(t *testing.T) {
	for _, c := range []struct {
		text        string
		n           int
		first, last string // "" stands for none
	}{
		// There is no model.
		{"X != X", 5, "", ""}, {"a = b", 5, "", ""}, {"XY in 0", 3, "", ""}, {"len 1 1 1 -1", 2, "", ""}, {"X in .", 0, "", ""}, {"X in .", -1, "", ""}, {"len -3 -1 0 -3", 0, "", ""}, {"- = -", -1, "", ""},
		// The first model is the least one,
		{"aX = Xa", 5, "X= Y= Z=", "X= Y= Z="}, {"X in (b|(aa))", 5, "X=b Y= Z=", "X=b Y= Z="}, {"- = -", 0, "X= Y= Z=", "X= Y= Z="}, {"X != Y,len 1 -1 0 -1,X in (a|b)", 3, "X=a Y=aa Z=", "X=a Y=aa Z="},
		{"X = Y,Y = Z,X != -", 2, "X=a Y=a Z=a", "X=a Y=a Z=a"}, {"Y in ((bb)|(a(aa)))", 5, "X= Y=bb Z=", "X= Y=bb Z="}, {"Z in (c|b)", 5, "X= Y= Z=b", "X= Y= Z=b"}, {"X = ccccc", 5, "X=ccccc Y= Z=", "X=ccccc Y= Z="},
		// where it is one of several,
		{"X != Y", 3, "X= Y=a Z=", "X= Y=a Z="}, {"XY = ab", 3, "X= Y=ab Z=", "X= Y=ab Z="}, {"XYZ = ab", 2, "X= Y= Z=ab", "X= Y= Z=ab"}, {"X != -,Y != -,Z != -", 2, "X=a Y=a Z=a", "X=a Y=a Z=a"}, {"len -1 -1 -1 -6", 2, "X=aa Y=aa Z=aa", "X=aa Y=aa Z=aa"},
		{"X in (1|a),Y in (b|(cc)),XY in ((cc)|(ab))", 3, "X= Y=cc Z=", "X= Y=cc Z="}, {"len -2 0 -1 -2,Y = X", 2, "X= Y= Z=aa", "X= Y= Z=aa"},
		// and where it is not,
		{"len -3 -1 0 -3,XY in *(b|c)", 3, "X= Y=bbb Z=", "X=b Y= Z="}, {"XY in ((c(cc))|(bb)),X in (1|(b|c)),Y in ((c(cc))|b)", 3, "X= Y=ccc Z=", "X=b Y=b Z="},
		{"XZ in ((a(aa))|c),Z in ((a(aa))|1)", 3, "X= Y= Z=aaa", "X=c Y= Z="}, {"Y != -,YZ in ((c(cc))|(b|(a(aa))))", 3, "X= Y=a Z=aa", "X= Y=b Z="}, {"len 0 -2 -1 -2,Z != a", 3, "X= Y= Z=aa", "X= Y=a Z="},
		{"len -3 -2 -1 -2", 2, "X= Y= Z=aa", "X= Y=a Z="}, {"len -2 -1 -1 -4", 2, "X= Y=aa Z=aa", "X=aa Y= Z="}, {"len -4 0 -1 -2,Y != -", 2, "X= Y=a Z=aa", "X=a Y=a Z="},
		// also where several others are least,
		{"len -3 -1 0 -3", 3, "X= Y=aaa Z=", "X=a Y= Z="}, {"len -3 0 -1 -3", 3, "X= Y= Z=aaa", "X=a Y= Z="}, {"len 0 -3 -1 -3", 3, "X= Y= Z=aaa", "X= Y=a Z="}, {"len -3 -1 0 -3,X out *a", 3, "X=b Y= Z=", "X=b Y= Z="},
		// or where the words have fewer letters.
		{"len -3 -1 0 -3", 2, "X=a Y= Z=", "X=a Y= Z="}, {"len -3 -2 -1 -2", 1, "X= Y=a Z=", "X= Y=a Z="}, {"len -2 -1 -1 -4", 1, "X=a Y=a Z=a", "X=a Y=a Z=a"},
	} {
		p := problemOfTexts(t, textsOf(c.text)...)
		text := func(v impl.Values, ok bool) string {
			if !ok && v == (impl.Values{}) {
				return ""
			}
			return fmt.Sprintf("X=%s Y=%s Z=%s", v.X, v.Y, v.Z)
		}
		if first, ok := impl.FirstModel(p, c.n); text(first, ok) != c.first || ok != (c.first != "") {
			t.Errorf("FirstModel(%s, %d) = %q, %v, want %s", nameOfProblem(p), c.n, first, ok, c.first)
		}
		if least, ok := impl.LeastModel(p, c.n); text(least, ok) != c.last || ok != (c.last != "") {
			t.Errorf("LeastModel(%s, %d) = %q, %v, want %s", nameOfProblem(p), c.n, least, ok, c.last)
		}
		checkAnySearch(t, p, boundsForTests...)
	}
}

func TestFirstModelOfOneVariableIsTheLeastOne(t *testing.T) {
	for _, s := range stringsOver("abc", 3)[1:] {
		for _, name := range []string{"X", "Y", "Z"} {
			for _, text := range []string{name + " = " + s, name + " != -," + name + s + " != " + s + name, s + name + " = " + name + s + "," + name + " out 1"} {
				p := problemOfTexts(t, textsOf(text)...)
				first, isFirst := impl.FirstModel(p, 5)
				least, isLeast := impl.LeastModel(p, 5)
				if first != least || !isFirst || !isLeast {
					t.Errorf("FirstModel(%s) = %q, %v, but LeastModel gives %q, %v", text, first, isFirst, least, isLeast)
				}
			}
		}
	}
}

func TestTotalLength(t *testing.T) {
	long := strings.Repeat("abc", 1<<20)
	for _, c := range []struct {
		v    impl.Values
		want int
	}{
		{impl.Values{}, 0}, {impl.Values{X: "a"}, 1}, {impl.Values{Y: "b"}, 1}, {impl.Values{Z: "c"}, 1}, {impl.Values{X: "ab", Y: "c", Z: "aaa"}, 6}, {impl.Values{X: "a", Y: "aa", Z: "aaaa"}, 7},
		{impl.Values{X: "a", Y: "a", Z: "a"}, 3}, {impl.Values{X: "ab", Z: "ab"}, 4}, {impl.Values{X: "abc", Y: "ab"}, 5}, {impl.Values{Y: "abcab", Z: "c"}, 6},
		{impl.Values{X: strings.Repeat("a", 30), Y: strings.Repeat("b", 30), Z: strings.Repeat("c", 30)}, 90}, {impl.Values{X: strings.Repeat("a", 30)}, 30},
		// Strings that are no words have lengths too, in bytes.
		{impl.Values{X: "X", Y: "YZ", Z: "#-= "}, 7}, {impl.Values{X: "\x00", Y: "\xff\xfe", Z: "\n"}, 4}, {impl.Values{X: "\u00e9"}, 2}, {impl.Values{Y: "\u20ac", Z: "\U0001f600"}, 7},
		{impl.Values{X: strings.Repeat("d", 31)}, 31}, {impl.Values{X: long}, 3 << 20}, {impl.Values{X: long, Y: long[1:], Z: long[2:]}, 9<<20 - 3},
	} {
		if got := impl.TotalLength(c.v); got != c.want {
			t.Errorf("TotalLength(%.120q) = %d, want %d", c.v, got, c.want)
		}
	}
	words := []string{"", "b", "ca", "abc", "aaaa", "cabcab", strings.Repeat("c", 30)}
	for _, v := range valuesOver(words...) {
		if got, want := impl.TotalLength(v), len(strings.Join([]string{v.Z, v.Y, v.X}, "")); got != want {
			t.Errorf("TotalLength(%q) = %d, want %d", v, got, want)
		}
	}
}

func TestSearchOfProblemsThatAreNotValid(t *testing.T) {
	// Each of the seven constraints holds for all values, and so would those of a problem without the other one.
	holding := problemOfTexts(t, "XY = XY", "X out 0", "len 0 0 1 99", "a != b", "- in 1", "ZZ in !0", "len 0 0 0 0")
	for _, n := range boundsForTests {
		checkNoSearch(t, holding, n)
	}
	if got := len(impl.ModelsUpTo(impl.Problem{List: holding.List[:6]}, 2)); got != 2197 {
		t.Errorf("there are %d models without the last constraint", got)
	}
	checkNoSearch(t, impl.Problem{List: slices.Repeat(problemOfTexts(t, "- = -").List, 7)}, boundsForTests...)
	checkNoSearch(t, impl.Problem{List: slices.Repeat(problemOfTexts(t, "X = X").List, 1<<18)}, boundsForTests...)
	checkNoSearch(t, impl.Problem{List: make([]impl.Constraint, 1<<18)}, boundsForTests...)
	for _, c := range invalidConstraints() {
		checkNoSearch(t, problemOf(c), boundsForTests...)
		checkNoSearch(t, problemOf(c, c), boundsForTests...)
		for k := range 6 {
			p := impl.Problem{List: slices.Clone(holding.List[:6])}
			p.List[k] = c
			checkNoSearch(t, p, boundsForTests...)
		}
		// Constraints that are unused do not count.
		list := append(problemOfTexts(t, "X = a", "a = a").List, c, c)
		checkAnySearch(t, impl.Problem{List: list[:2]}, -1, 0, 1)
		checkAnySearch(t, impl.Problem{List: list[:0]}, -1, 0, 1)
	}
}

func TestSearchWithVeryLargeExpressions(t *testing.T) {
	withoutTakingLong(t, func() {
		for _, r := range []impl.Regex{starsAround(1000000, letterOf("a")), doubled(64, leafOf(impl.RxAny)), ringOf(impl.RxStar), ringOf(impl.RxNot, impl.RxStar), ringOf(0)} {
			for kind := 1; kind <= 5; kind++ {
				for k := range 6 {
					p := problemOfTexts(t, sixTexts...)
					p.List[k] = ofRegex(kind, "X", r)
					_, isFirst := impl.FirstModel(p, 5)
					_, isLeast := impl.LeastModel(p, 5)
					if impl.BoundOf(p) != -1 || len(impl.ModelsUpTo(p, 5)) != 0 || isFirst || isLeast {
						t.Errorf("a very large expression is accepted for the Kind %d", kind)
					}
				}
			}
		}
	})
}

func TestSearchOfTheLargestProblems(t *testing.T) {
	withoutTakingLong(t, func() {
		for _, left := range []string{"XXXXXXXXXXXX", "XYXYXYXYXYXY", "XZYXYZXYZXYZ", "ZYZYZYZYZYZY"} {
			six := slices.Repeat([]string{left + " out ((*.*.)((*.*.)0))"}, 6)
			p := problemOfTexts(t, six...)
			count := map[int]int{1: 364, 2: 1600, 3: 2197}[len(varsOfAll(p))]
			if got := len(impl.ModelsUpTo(p, math.MaxInt)); got != count {
				t.Errorf("ModelsUpTo(%s) has %d models, want %d", nameOfProblem(p), got, count)
			}
		}
	})
	for _, text := range []string{"XYZXYZXYZXYZ in *(a(b|a))", "XYXYXYXYXYXY in !(*(a|b)(c*.))", "ZZZZZZZZZZZZ out *(ab),ZZZZZZ = ZZZZZZ", "abcXYZabcXYZ != ZZZZZZZZZZZZ,len 1 1 1 4"} {
		checkAnySearch(t, problemOfTexts(t, textsOf(text)...), 1, math.MaxInt)
	}
}

// searchTexts are problems with and without models and variables.
var searchTexts = []string{
	"", "a = a", "a = b", "aX = Xa", "X != X", "Y in *(ab)", "Z = Z", "len -1 0 0 -5", "X = ccccc", "X = Y", "ZX = ab", "Z != aX,len 1 0 1 2", "YZ in 0", "len -3 -1 0 -3",
	"Y = ccc,Z = ccc", "XYZ = ab", "XYZ out 0", "len 1 1 1 -1", "X = cc,Y = cc,Z = cc", "X != Y,Y != Z,X != Z,len 1 1 1 2",
}

// TestAllModelsAreModels is promise 11.
func TestAllModelsAreModels(t *testing.T) {
	for _, text := range searchTexts {
		p := problemOfTexts(t, textsOf(text)...)
		all := impl.ModelsUpTo(p, 5)
		for n := -1; n <= 6; n++ {
			models := impl.ModelsUpTo(p, n)
			seen := map[impl.Values]bool{}
			for _, v := range models {
				seen[v] = true
				checkModel(t, p, v, true)
				if len(v.X) > min(n, impl.BoundOf(p)) || len(v.Y) > min(n, impl.BoundOf(p)) || len(v.Z) > min(n, impl.BoundOf(p)) {
					t.Errorf("ModelsUpTo(%s, %d) has %q", nameOfProblem(p), n, v)
				}
			}
			if len(seen) != len(models) || !slices.Equal(models, within(all, n)) {
				t.Errorf("ModelsUpTo(%s, %d) has %d models, of which %d are different", nameOfProblem(p), n, len(models), len(seen))
			}
			first, isFirst := impl.FirstModel(p, n)
			least, isLeast := impl.LeastModel(p, n)
			if isFirst != (len(models) > 0) || isLeast != isFirst || isFirst != seen[first] || isLeast != seen[least] {
				t.Errorf("FirstModel(%s, %d) = %q, %v, LeastModel gives %q, %v", nameOfProblem(p), n, first, isFirst, least, isLeast)
			}
			for _, v := range models {
				if impl.TotalLength(v) < impl.TotalLength(least) {
					t.Errorf("LeastModel(%s, %d) = %q, but %q is less", nameOfProblem(p), n, least, v)
				}
			}
		}
	}
}

func TestEveryModelIsFound(t *testing.T) {
	for _, text := range searchTexts {
		p := problemOfTexts(t, textsOf(text)...)
		models := impl.ModelsUpTo(p, 2)
		for _, v := range valuesOver(stringsOver("abc", 2)...) {
			if impl.IsModel(p, v) != slices.Contains(models, v) {
				t.Errorf("IsModel(%s, %q) = %v", nameOfProblem(p), v, impl.IsModel(p, v))
			}
		}
	}
}

// programGoroutines counts the goroutines that run the program or were started by it.
func programGoroutines() int {
	stacks := make([]byte, 1<<20)
	stacks = stacks[:runtime.Stack(stacks, true)]
	count := 0
	for _, stack := range strings.Split(string(stacks), "\n\n") {
		if strings.Contains(stack, "g00582/impl.") {
			count++
		}
	}
	return count
}

// checkGoroutinesEnd expects that f leaves no goroutine behind. One that has nothing left to do may still be there for a
// moment.
func checkGoroutinesEnd(t *testing.T, name string, f func()) {
	t.Helper()
	for range 5 {
		f()
	}
	for range 2000 {
		if programGoroutines() == 0 {
			return
		}
		time.Sleep(time.Millisecond)
	}
	t.Fatalf("%d goroutines are left after %s", programGoroutines(), name)
}

func TestSearchEndsItsGoroutines(t *testing.T) {
	problems := []impl.Problem{problemOf(impl.Constraint{}), problemOf(invalidConstraints()[7]), {List: make([]impl.Constraint, 7)}, problemOf(ofRegex(impl.CnIn, "X", ringOf(impl.RxStar)))}
	for _, text := range searchTexts {
		problems = append(problems, problemOfTexts(t, textsOf(text)...))
	}
	for i, p := range problems {
		checkGoroutinesEnd(t, fmt.Sprint("BoundOf of problem ", i), func() { impl.BoundOf(p) })
		for _, n := range []int{math.MinInt, -1, 0, 1, 2, math.MaxInt} {
			checkGoroutinesEnd(t, fmt.Sprint("ModelsUpTo of problem ", i), func() { impl.ModelsUpTo(p, n) })
			checkGoroutinesEnd(t, fmt.Sprint("FirstModel of problem ", i), func() { impl.FirstModel(p, n) })
			checkGoroutinesEnd(t, fmt.Sprint("LeastModel of problem ", i), func() { impl.LeastModel(p, n) })
		}
	}
}

func TestSearchEndsItsGoroutinesWhereverTheFirstModelIs(t *testing.T) {
	for _, word := range stringsOver("abc", 2) {
		for _, text := range []string{"X = " + word, "X = X,Y = " + word, "XZ in !0,Y = " + word, "X in !0,Y in !0,Z = " + word} {
			p := problemOfTexts(t, textsOf(strings.ReplaceAll(text+",a = a", "= ,", "= -,"))...)
			checkGoroutinesEnd(t, "FirstModel with "+text, func() {
				if v, ok := impl.FirstModel(p, 2); !ok || v.X+v.Y+v.Z != word {
					t.Errorf("FirstModel(%s, 2) = %q, %v", nameOfProblem(p), v, ok)
				}
			})
			checkGoroutinesEnd(t, "LeastModel with "+text, func() { impl.LeastModel(p, 2) })
		}
	}
}

func TestSearchesAtTheSameTime(t *testing.T) {
	for _, text := range searchTexts {
		p := problemOfTexts(t, textsOf(text)...)
		want := modelsBySorting(p)
		least, _ := leastByTotals(want)
		var group sync.WaitGroup
		for range 8 {
			group.Go(func() {
				if got := impl.ModelsUpTo(p, 5); !slices.Equal(got, want) {
					t.Errorf("ModelsUpTo(%s, 5) has %d models, want %d", nameOfProblem(p), len(got), len(want))
				}
				if got, ok := impl.LeastModel(p, 5); got != least || ok != (len(want) > 0) {
					t.Errorf("LeastModel(%s, 5) = %q, %v, want %q", nameOfProblem(p), got, ok, least)
				}
			})
		}
		group.Wait()
	}
}

func TestModelsAreNewMemory(t *testing.T) {
	for _, text := range searchTexts {
		p := problemOfTexts(t, textsOf(text)...)
		want := modelsBySorting(p)
		var results [][]impl.Values
		places, count := map[*impl.Values]bool{}, 0
		for range 3 {
			list := impl.ModelsUpTo(p, 5)
			results = append(results, list)
			for all := list[:cap(list)]; len(all) > 0; all = all[1:] {
				places[&all[0]] = true
				count++
			}
		}
		if len(places) != count {
			t.Errorf("results of ModelsUpTo(%s, 5) share memory", nameOfProblem(p))
		}
		for _, list := range results[1:] {
			for all := list[:cap(list)]; len(all) > 0; all = all[1:] {
				all[0] = impl.Values{X: "spoilt"}
			}
		}
		if !slices.Equal(results[0], want) {
			t.Errorf("a result of ModelsUpTo(%s, 5) is changed with another one", nameOfProblem(p))
		}
		// A result does not change with its argument, nor with later calls.
		spoilAll(p)
		q := problemOfTexts(t, textsOf(text)...)
		impl.FirstModel(q, 1)
		impl.LeastModel(q, 5)
		if !slices.Equal(results[0], want) || !slices.Equal(impl.ModelsUpTo(q, 5), want) {
			t.Errorf("a result of ModelsUpTo(%s, 5) is changed", nameOfProblem(q))
		}
	}
}

func TestSearchKeepsItsArguments(t *testing.T) {
	list := []impl.Problem{{}, problemOfTexts(t, sixTexts...), problemOfTexts(t, textsForTests...), problemOf(differingConstraints()[:5]...), problemOf(invalidConstraints()[:6]...)}
	for _, text := range searchTexts {
		list = append(list, problemOfTexts(t, textsOf(text)...))
	}
	for _, original := range list {
		p := withUnusedConstraints(original)
		for _, n := range []int{math.MinInt, -1, 0, 2, math.MaxInt} {
			impl.BoundOf(p)
			impl.ModelsUpTo(p, n)
			impl.FirstModel(p, n)
			impl.LeastModel(p, n)
		}
		if !reflect.DeepEqual(allConstraints(p), allConstraints(withUnusedConstraints(original))) {
			t.Errorf("an argument is changed to %s", nameOfProblem(p))
		}
		checkAnySearch(t, p, 1)
	}
}

// randomSearch is a valid problem with short terms over some of the variables, which has models in many cases.
func randomSearch(random *rand.Rand) impl.Problem {
	signs := strings.Split([]string{"abc", "aX", "abY", "abcZ", "XY", "aXXYY", "abXZ", "bYZ", "XYZ", "aXYZ", "abXYZ"}[random.IntN(11)], "")
	names := slices.DeleteFunc(slices.Clone(signs), func(s string) bool { return s >= "a" })
	term := func() string { return randomString(random, signs, random.IntN(5)) }
	var p impl.Problem
	for range random.IntN(4) {
		switch kind := 1 + random.IntN(6); kind {
		case 1, 2:
			p.List = append(p.List, ofTerms(kind, term(), term()))
		case 3, 4:
			p.List = append(p.List, ofRegex(kind, term(), randomExpression(random, 1+random.IntN(8))))
		default:
			coeffs := []int{0, 0, 0}
			for _, name := range names {
				coeffs[name[0]-'X'] = random.IntN(8) - 6
			}
			p.List = append(p.List, ofLengths(random.IntN(12)-10, coeffs...))
		}
	}
	for _, name := range names {
		if random.IntN(3) == 0 {
			p.List = append(p.List, ofTerms(impl.CnEqual, name, randomString(random, []string{"a", "b", "c"}, random.IntN(3))))
		}
	}
	return impl.Problem{List: p.List[:min(len(p.List), 6)]}
}

func TestRandomSearches(t *testing.T) {
	random := rand.New(rand.NewPCG(11, 1))
	counts := map[string]int{}
	for range 400 {
		p := randomSearch(random)
		checkAnySearch(t, p, random.IntN(7), []int{math.MinInt, -1, 0, 6, math.MaxInt}[random.IntN(5)])
		models := min(len(impl.ModelsUpTo(p, 5)), 2)
		counts[fmt.Sprintf("%d variables and %d models", len(varsOfAll(p)), models)]++
	}
	for vars := range 4 {
		for models := range 3 {
			name := fmt.Sprintf("%d variables and %d models", vars, models)
			if counts[name] < 3 && (vars > 0 || models < 2) {
				t.Errorf("%d random problems have %s", counts[name], name)
			}
		}
	}
}

func TestRandomLeastModels(t *testing.T) {
	random := rand.New(rand.NewPCG(11, 3))
	others := map[int]int{}
	for range 100 {
		// The more the length of the first variable counts, the later is the least model.
		coeffs := []int{random.IntN(10) - 9, random.IntN(7) - 6, random.IntN(4) - 3}
		coeffs[random.IntN(3)] *= random.IntN(2)
		p := problemOf(ofLengths(-random.IntN(12), coeffs...), ofTerms(impl.CnDiffer, []string{"X", "Y", "Z"}[random.IntN(3)], randomString(random, []string{"a", "b", "c"}, random.IntN(3))))
		checkAnySearch(t, p, random.IntN(4), 5)
		first, _ := impl.FirstModel(p, 5)
		least, _ := impl.LeastModel(p, 5)
		if first != least {
			others[len(varsOfAll(p))]++
		}
	}
	if others[2] < 5 || others[3] < 5 {
		t.Errorf("the first model is not the least one of %d random problems with two variables, and of %d with three", others[2], others[3])
	}
}

func TestRandomSearchesOfAnyProblems(t *testing.T) {
	random := rand.New(rand.NewPCG(11, 2))
	valid, invalid := 0, 0
	for range 300 {
		p := randomProblem(random)
		if isProblemByFields(p) {
			valid++
		} else {
			invalid++
		}
		checkAnySearch(t, p, random.IntN(4)-1)
	}
	if valid < 100 || invalid < 50 {
		t.Errorf("%d random problems are valid, %d are not", valid, invalid)
	}
}
