package tests

import (
	"math"
	"math/rand/v2"
	"reflect"
	"slices"
	"strings"
	"testing"

	"loop.example/g00582/impl"
)

// firstAccepted goes back from the accepting states: levels[n] tells from which states a word of n letters is accepted.
// The automaton may have any number of states.
func firstAccepted(d impl.Dfa) (string, bool) {
	levels := [][]bool{d.Accept}
	for n := 0; !levels[n][0]; n++ {
		if n == len(d.Accept) {
			return "", false
		}
		level := make([]bool, len(d.Accept))
		for q, row := range d.Next {
			level[q] = levels[n][row[0]] || levels[n][row[1]] || levels[n][row[2]]
		}
		levels = append(levels, level)
	}
	word, q := "", 0
	for n := len(levels) - 2; n >= 0; n-- {
		letter := slices.IndexFunc(d.Next[q], func(next int) bool { return levels[n][next] })
		word += "abc"[letter : letter+1]
		q = d.Next[q][letter]
	}
	return word, true
}

// pairsOf has a state for each two states of a and b.
func pairsOf(a impl.Dfa, b impl.Dfa, want acceptance) impl.Dfa {
	var d impl.Dfa
	n := len(b.Accept)
	for p := range a.Accept {
		for q := range b.Accept {
			var row []int
			for letter := range 3 {
				row = append(row, a.Next[p][letter]*n+b.Next[q][letter])
			}
			d.Accept = append(d.Accept, want(a.Accept[p], b.Accept[q]))
			d.Next = append(d.Next, row)
		}
	}
	return d
}

func isOneAlone(a bool, b bool) bool { return a != b }

func isFirstAlone(a bool, b bool) bool { return a && !b }

// wordCounts has for each n from 0 to 20 the number of accepted words of n letters, counted from their last letters on.
func wordCounts(d impl.Dfa) []int {
	counts := make([]int, len(d.Accept))
	for q, accepts := range d.Accept {
		if accepts {
			counts[q] = 1
		}
	}
	var list []int
	for range 21 {
		list = append(list, counts[0])
		longer := make([]int, len(counts))
		for q, row := range d.Next {
			longer[q] = counts[row[0]] + counts[row[1]] + counts[row[2]]
		}
		counts = longer
	}
	return list
}

// hasLoopOnTheWay tells whether some state is reached, lies on a loop, and leads to an accepting state.
func hasLoopOnTheWay(d impl.Dfa) bool {
	edges, paths := make([][]bool, len(d.Accept)), make([][]bool, len(d.Accept))
	for q, row := range d.Next {
		edges[q], paths[q] = make([]bool, len(d.Accept)), make([]bool, len(d.Accept))
		for _, next := range row {
			edges[q][next] = true
		}
	}
	addPaths(paths, edges)
	for q := range d.Accept {
		for end, accepts := range d.Accept {
			if accepts && paths[q][q] && (q == 0 || paths[0][q]) && paths[q][end] {
				return true
			}
		}
	}
	return false
}

// lengthsBySets keeps each set of states as a string, like the constructions of chapter 6.
func lengthsBySets(d impl.Dfa) ([]bool, int) {
	var list []bool
	indices := map[string]int{}
	set := withStart("")
	for {
		if m, seen := indices[set]; seen {
			return list, len(list) - m
		}
		indices[set] = len(list)
		list = append(list, hasAccepting(d, set))
		next := []byte(setAfter(d, set, 0) + setAfter(d, set, 1) + setAfter(d, set, 2))
		slices.Sort(next)
		set = string(slices.Compact(next))
	}
}

// lengthAt continues the list as the chapter says.
func lengthAt(list []bool, period int, n int) bool {
	for n >= len(list) {
		n -= period
	}
	return list[n]
}

func checkShortest(t *testing.T, d impl.Dfa, want string, wantOk bool) {
	t.Helper()
	if got, ok := impl.ShortestWord(d); got != want || ok != wantOk {
		t.Errorf("ShortestWord(%v) = %q, %v, want %q, %v", d, got, ok, want, wantOk)
	}
}

func checkDiffer(t *testing.T, a impl.Dfa, b impl.Dfa, want string, wantOk bool) {
	t.Helper()
	for _, pair := range [][2]impl.Dfa{{a, b}, {b, a}} {
		if got, ok := impl.DifferWord(pair[0], pair[1]); got != want || ok != wantOk {
			t.Errorf("DifferWord(%v, %v) = %q, %v, want %q, %v", pair[0], pair[1], got, ok, want, wantOk)
		}
	}
}

func checkIncluded(t *testing.T, a impl.Dfa, b impl.Dfa, want bool) {
	t.Helper()
	if got := impl.IsIncluded(a, b); got != want {
		t.Errorf("IsIncluded(%v, %v) = %v", a, b, got)
	}
}

func checkCount(t *testing.T, d impl.Dfa, n int, want int) {
	t.Helper()
	if got := impl.CountWords(d, n); got != want {
		t.Errorf("CountWords(%v, %d) = %d, want %d", d, n, got, want)
	}
}

func checkFinite(t *testing.T, d impl.Dfa, want bool) {
	t.Helper()
	if got := impl.IsFinite(d); got != want {
		t.Errorf("IsFinite(%v) = %v", d, got)
	}
}

func checkAccepted(t *testing.T, d impl.Dfa, most int, want []string) {
	t.Helper()
	if got := impl.AcceptedWords(d, most); !slices.Equal(got, want) {
		t.Errorf("AcceptedWords(%v, %d) = %q, want %q", d, most, got, want)
	}
}

func checkLengths(t *testing.T, d impl.Dfa, want []bool, period int) {
	t.Helper()
	list, got := impl.LengthsOf(d)
	if !slices.Equal(list, want) || got != period {
		t.Errorf("LengthsOf(%v) = %v, %d, want %v, %d", d, list, got, want, period)
		return
	}
	for n := range 21 {
		if lengthAt(list, got, n) != (impl.CountWords(d, n) > 0) {
			t.Errorf("LengthsOf(%v) = %v, %d, but there are %d words of %d letters", d, list, got, impl.CountWords(d, n), n)
		}
	}
}

// checkLanguage checks all functions of one automaton.
func checkLanguage(t *testing.T, d impl.Dfa) {
	t.Helper()
	word, found := firstAccepted(d)
	checkShortest(t, d, word, found)
	for n, count := range wordCounts(d) {
		checkCount(t, d, n, count)
	}
	checkFinite(t, d, !hasLoopOnTheWay(d))
	list, period := lengthsBySets(d)
	checkLengths(t, d, list, period)
	for most := range 7 {
		var words []string
		for _, s := range stringsOver("abc", min(most, 5)) {
			if d.Accept[stateAfter(d, 0, s)] {
				words = append(words, s)
			}
		}
		checkAccepted(t, d, most, words)
	}
}

// checkTwo checks the functions of two automata, and tells whether the languages are equal.
func checkTwo(t *testing.T, a impl.Dfa, b impl.Dfa) bool {
	t.Helper()
	word, found := firstAccepted(pairsOf(a, b, isOneAlone))
	checkDiffer(t, a, b, word, found)
	_, onlyA := firstAccepted(pairsOf(a, b, isFirstAlone))
	checkIncluded(t, a, b, !onlyA)
	_, onlyB := firstAccepted(pairsOf(b, a, isFirstAlone))
	checkIncluded(t, b, a, !onlyB)
	return !found
}

// languageExamples have all kinds of languages, and are of all sizes.
func languageExamples() []impl.Dfa {
	var list []impl.Dfa
	for _, text := range []string{
		noWord, everyWord, emptyWord, notEmpty, wordA, wordB, emptyOrA, onlyA, onlyB, evenNumber, oddNumber, endsWithB, beginsWithA,
		"+111 +000", "-122 -211 +222", "-123 -545 -455 -554 +555 -555", "-111 -222 +333 -444 -222",
	} {
		list = append(list, statesOf(text), withUnreached(statesOf(text)))
	}
	for _, n := range []int{0, 1, 5, 6, 20, 21, 30, 31, 38} {
		list = append(list, wordsOfExactly(n))
	}
	for _, letters := range []string{"a", "bc", "abc", ""} {
		list = append(list, counter(39, letters, isZeroNumber), counter(40, letters, isZeroNumber), counter(40, letters, isEvenNumber), counter(40, letters, isAnyNumber))
	}
	for _, s := range append(longestWords(), "abcab", "ccccc", strings.Repeat("bca", 12)+"bc") {
		list = append(list, lineOf(s))
	}
	return append(list, cyclesFrom(5, 7), cyclesFrom(2, 3, 4), cyclesFrom(11, 13, 14))
}

// cyclesFrom leads from state 0 to the first states of one to three cycles, of which the last ones are accepting.
func cyclesFrom(sizes ...int) impl.Dfa {
	d := impl.Dfa{Accept: []bool{false}, Next: [][]int{{1, 1, 1}}}
	for i, size := range sizes {
		d = withCycle(d, 0, i, size)
	}
	return d
}

// withCycle adds a cycle of every letter, to which a letter leads from q.
func withCycle(d impl.Dfa, q int, letter int, size int) impl.Dfa {
	first := len(d.Accept)
	d.Next[q][letter] = first
	for k := range size {
		next := first + (k+1)%size
		d.Accept = append(d.Accept, k == size-1)
		d.Next = append(d.Next, []int{next, next, next})
	}
	return d
}

func TestLanguagesOfExamples(t *testing.T) {
	withoutTakingLong(t, func() {
		for _, d := range languageExamples() {
			checkLanguage(t, d)
			checkLanguage(t, impl.MinimizeDfa(d))
			checkLanguage(t, impl.ComplementDfa(d))
		}
	})
}

func TestLanguagesOfEverySmallAutomaton(t *testing.T) {
	for states := 1; states <= 2; states++ {
		for _, d := range automataOf(states) {
			checkLanguage(t, d)
		}
	}
	for i, d := range automataOf(3) {
		if i%97 == 0 {
			checkLanguage(t, d)
		}
	}
}

// sparseAutomaton has few accepting states, and each state leads to few others near it, so that words are long.
func sparseAutomaton(random *rand.Rand, states int) impl.Dfa {
	var d impl.Dfa
	for q := range states {
		row := []int{q, min(q+1, states-1), random.IntN(q + 1)}
		random.Shuffle(3, func(i int, j int) { row[i], row[j] = row[j], row[i] })
		if random.IntN(3) == 0 {
			row[random.IntN(3)] = min(q+2, states-1)
		}
		d.Accept = append(d.Accept, q > states/2 && random.IntN(8) == 0)
		d.Next = append(d.Next, row)
	}
	return withOtherNumbers(random, d)
}

func sparseAutomata(n int) []impl.Dfa {
	random := rand.New(rand.NewPCG(7, uint64(n)))
	var list []impl.Dfa
	for range n {
		list = append(list, sparseAutomaton(random, 2+random.IntN(39)))
	}
	return list
}

func TestLanguagesOfRandomAutomata(t *testing.T) {
	finite, long := 0, 0
	for _, d := range slices.Concat(randomAutomata(200), smallAutomata(200), sparseAutomata(200)) {
		checkLanguage(t, d)
		if impl.IsFinite(d) {
			finite++
		}
		if s, _ := impl.ShortestWord(d); len(s) > 5 {
			long++
		}
	}
	if finite < 50 || finite > 550 || long < 50 {
		t.Errorf("%d of 600 languages are finite, and %d have only long words", finite, long)
	}
}

func TestLanguagesOfInvalidAutomata(t *testing.T) {
	for name, d := range invalidAutomata() {
		if s, ok := impl.ShortestWord(d); s != "" || ok {
			t.Errorf("ShortestWord with %s = %q, %v", name, s, ok)
		}
		for _, n := range []int{-1, 0, 1, 2, 20, 21, math.MinInt, math.MaxInt} {
			if count := impl.CountWords(d, n); count != 0 {
				t.Errorf("CountWords with %s of %d letters = %d", name, n, count)
			}
			if list := impl.AcceptedWords(d, n); len(list) != 0 {
				t.Errorf("AcceptedWords with %s of %d letters = %q", name, n, list)
			}
		}
		if impl.IsFinite(d) {
			t.Errorf("IsFinite with %s is true", name)
		}
		if list, period := impl.LengthsOf(d); len(list) != 0 || period != 0 {
			t.Errorf("LengthsOf with %s = %v, %d", name, list, period)
		}
	}
}

func TestTwoLanguagesOfInvalidAutomata(t *testing.T) {
	valid := validAutomata()
	for _, text := range []string{noWord, everyWord, emptyWord} {
		valid[text] = statesOf(text)
	}
	check := func(name string, a impl.Dfa, b impl.Dfa) {
		t.Helper()
		if s, ok := impl.DifferWord(a, b); s != "" || ok {
			t.Errorf("DifferWord with %s = %q, %v", name, s, ok)
		}
		if impl.IsIncluded(a, b) {
			t.Errorf("IsIncluded with %s is true", name)
		}
	}
	for name, d := range invalidAutomata() {
		check(name+" twice", d, d)
		check(name+" and a zero automaton", d, impl.Dfa{})
		check(name+" behind a zero automaton", impl.Dfa{}, d)
		for _, other := range valid {
			check(name+" on the left", d, other)
			check(name+" on the right", other, d)
		}
	}
}

func TestShortestWord(t *testing.T) {
	for text, want := range map[string]string{
		everyWord: "", emptyWord: "", emptyOrA: "", onlyA: "", evenNumber: "",
		notEmpty: "a", wordA: "a", oddNumber: "a", beginsWithA: "a",
		wordB: "b", endsWithB: "b", "-112 -111 +111": "c",
		// Several words of one length, where the first one does not always lead to the state with the least number.
		"-112 +222 -222":                "a",
		"-123 -545 -455 -554 +555 -555": "ab",
		"-321 -544 -454 -555 +555 -555": "ba",
		"-213 -444 -555 -444 +555 -555": "ba",
		"-321 -444 -444 -444 +555 -555": "aa",
		"-120 -001 -330 +333":           "ba",
		// A word with fewer letters comes before words with earlier letters.
		"-120 -330 +222 -444 +444":      "b",
		"-152 -355 -554 -455 +555 -555": "cc",
		// States that are not reached lead to the others.
		"-010 +000 +111":      "b",
		"-111 +111 +011":      "a",
		"-222 +000 -332 +333": "aa",
	} {
		checkShortest(t, statesOf(text), want, true)
		checkShortest(t, withUnreached(statesOf(text)), want, true)
	}
	// Accepting states that are not reached make no difference.
	for _, text := range []string{noWord, "-000 +111", "-111 -000 +012", "-001 -020 -000 +333", "-100 -011 +222"} {
		checkShortest(t, statesOf(text), "", false)
		checkShortest(t, withUnreached(statesOf(text)), "", false)
	}
}

func TestShortestWordWithManyLetters(t *testing.T) {
	for n := range 39 {
		checkShortest(t, wordsOfExactly(n), strings.Repeat("a", n), true)
		checkShortest(t, lineOf(strings.Repeat("cba", 13)[:n]), strings.Repeat("cba", 13)[:n], true)
	}
	for n := 1; n <= 40; n++ {
		isLast := func(q int) bool { return q == n-1 }
		for letters, word := range map[string]string{"a": "a", "b": "b", "bc": "b", "c": "c", "abc": "a"} {
			checkShortest(t, counter(n, letters, isLast), strings.Repeat(word, n-1), true)
			checkShortest(t, counter(n, letters, isZeroNumber), "", true)
		}
		checkShortest(t, counter(n, "", isZeroNumber), "", true)
		checkShortest(t, counter(n, "abc", func(int) bool { return false }), "", false)
	}
}

func TestDifferWord(t *testing.T) {
	for _, c := range []struct{ a, b, want string }{
		{noWord, everyWord, ""}, {noWord, emptyWord, ""}, {everyWord, notEmpty, ""}, {onlyA, notEmpty, ""}, {evenNumber, oddNumber, ""},
		{emptyOrA, wordA, ""}, {emptyWord, wordA, ""}, {"+111 -111", "-111 +111", ""},
		{noWord, notEmpty, "a"}, {noWord, wordA, "a"}, {everyWord, emptyWord, "a"}, {emptyWord, onlyA, "a"}, {onlyA, onlyB, "a"}, {wordA, wordB, "a"},
		{noWord, wordB, "b"}, {everyWord, onlyA, "b"}, {noWord, endsWithB, "b"}, {wordA, notEmpty, "b"},
		{everyWord, "+001 -111", "c"}, {"-112 +222 -222", "-111 +222 -222", "c"},
		{emptyOrA, onlyA, "aa"}, {wordA, beginsWithA, "aa"}, {oddNumber, beginsWithA, "aa"},
		{wordB, endsWithB, "ab"}, {endsWithB, "-121 -111 +222", "ab"}, {emptyOrA, evenNumber, "a"},
		{onlyA, "+122 -022 -222", "a"}, {"+122 -022 -222", "+122 -322 -222 -022", "aa"},
		{"-110 +110", "-110 +120 -110", "ab"}, {"-110 +110", "-110 +120 +130 -110", "abb"},
	} {
		a, b := statesOf(c.a), statesOf(c.b)
		checkDiffer(t, a, b, c.want, true)
		checkDiffer(t, withUnreached(a), b, c.want, true)
		checkDiffer(t, impl.MinimizeDfa(a), impl.MinimizeDfa(withUnreached(b)), c.want, true)
		checkTwo(t, a, b)
	}
}

func TestDifferWordOfOneLanguage(t *testing.T) {
	random := rand.New(rand.NewPCG(7, 1))
	for _, d := range slices.Concat(languageExamples(), randomAutomata(200), smallAutomata(100), sparseAutomata(100)) {
		checkDiffer(t, d, d, "", false)
		checkIncluded(t, d, d, true)
		for _, other := range []impl.Dfa{copyOfAutomaton(d), impl.MinimizeDfa(d), withOtherNumbers(random, d), withCopies(random, d, 40)} {
			checkDiffer(t, d, other, "", false)
			checkIncluded(t, d, other, true)
			checkIncluded(t, other, d, true)
		}
	}
}

func TestDifferWordOneWordAlone(t *testing.T) {
	random := rand.New(rand.NewPCG(7, 2))
	words := append(longestWords(), strings.Repeat("c", 38), strings.Repeat("acb", 12)+"ca", strings.Repeat("a", 38))
	for _, s := range append(stringsOver("abc", 2), words...) {
		for _, text := range []string{noWord, everyWord} {
			d := statesOf(text)
			word := lineOf(s)
			if text == everyWord {
				for q := range word.Accept {
					word.Accept[q] = !word.Accept[q]
				}
			}
			checkDiffer(t, d, word, s, true)
			checkDiffer(t, withUnreached(d), withOtherNumbers(random, word), s, true)
			checkIncluded(t, d, word, text == noWord)
			checkIncluded(t, word, d, text == everyWord)
		}
		if len(s) < 38 {
			checkDiffer(t, lineOf(s), lineOf(s+"c"), s, true)
		}
	}
}

// alikeCounters count modulo n and m, which have no common divisor. Two sequences with these periods that agree on more
// than n+m-2 places are constant (the theorem of Fine and Wilf), so both automata differ at n+m-2 letters for the first time.
func alikeCounters(n int, m int) (impl.Dfa, impl.Dfa) {
	accepted := make([]bool, n+m-2)
	open := []int{0}
	for len(open) > 0 {
		k := open[0]
		open = open[1:]
		if k < 0 || k >= len(accepted) || accepted[k] {
			continue
		}
		accepted[k] = true
		open = append(open, k-n, k+n, k-m, k+m)
	}
	accepts := func(k int) bool { return accepted[k] }
	return counter(n, "abc", accepts), counter(m, "abc", accepts)
}

func TestDifferWordLongerThanMaxWord(t *testing.T) {
	for _, c := range [][2]int{{2, 3}, {16, 17}, {17, 16}, {29, 40}, {3, 40}, {37, 38}, {40, 39}} {
		a, b := alikeCounters(c[0], c[1])
		checkDiffer(t, a, b, strings.Repeat("a", c[0]+c[1]-2), true)
		checkTwo(t, a, b)
	}
	checkDiffer(t, counter(40, "c", isZeroNumber), counter(39, "c", isZeroNumber), strings.Repeat("c", 39), true)
	checkDiffer(t, counter(40, "bc", isZeroNumber), lineOf(""), "a", true)
	for n := range 38 {
		checkDiffer(t, wordsOfExactly(n), wordsOfExactly(n+1), strings.Repeat("a", n), true)
		checkDiffer(t, wordsOfExactly(n+1), statesOf(noWord), strings.Repeat("a", n+1), true)
	}
}

func TestIsIncluded(t *testing.T) {
	for _, c := range []struct {
		a, b        string
		there, back bool
	}{
		{noWord, noWord, true, true}, {noWord, everyWord, true, false}, {noWord, emptyWord, true, false}, {noWord, wordA, true, false}, {noWord, evenNumber, true, false},
		{everyWord, everyWord, true, true}, {everyWord, "+111 +000", true, true}, {notEmpty, everyWord, true, false}, {emptyWord, everyWord, true, false},
		{emptyWord, notEmpty, false, false}, {emptyWord, onlyA, true, false}, {wordA, emptyOrA, true, false}, {emptyOrA, onlyA, true, false},
		{wordA, wordB, false, false}, {wordA, onlyA, true, false}, {wordA, onlyB, false, false}, {wordA, beginsWithA, true, false}, {wordA, oddNumber, true, false},
		{onlyA, onlyB, false, false}, {evenNumber, oddNumber, false, false}, {wordB, endsWithB, true, false}, {endsWithB, notEmpty, true, false},
		{"+122 -022 -222", onlyA, true, false}, {"+122 -022 -222", evenNumber, true, false}, {"+123 +111 +111 +111", everyWord, true, true},
	} {
		a, b := statesOf(c.a), statesOf(c.b)
		for _, left := range []impl.Dfa{a, withUnreached(a), impl.MinimizeDfa(a)} {
			for _, right := range []impl.Dfa{b, withUnreached(b), impl.MinimizeDfa(b)} {
				checkIncluded(t, left, right, c.there)
				checkIncluded(t, right, left, c.back)
			}
		}
		checkTwo(t, a, b)
	}
}

func TestIsIncludedButForOneLongWord(t *testing.T) {
	for _, c := range [][2]int{{40, 39}, {39, 40}, {40, 37}, {7, 40}} {
		n, m := c[0], c[1]
		last := counter(n, "abc", func(q int) bool { return q == n-1 })
		// The first word that is accepted by last, but not by this automaton, has n*m-1 letters.
		notLast := counter(m, "abc", func(q int) bool { return q != m-1 })
		checkIncluded(t, last, notLast, false)
		checkIncluded(t, notLast, last, false)
		checkIncluded(t, last, counter(n, "abc", func(q int) bool { return q != 0 }), true)
	}
	for _, s := range longestWords() {
		word, other := lineOf(s), lineOf(s[:29]+map[bool]string{true: "b", false: "a"}[s[29] == 'a'])
		both, _ := impl.ProductDfa(word, other, impl.RxOr)
		checkIncluded(t, word, other, false)
		checkIncluded(t, other, word, false)
		checkIncluded(t, word, both, true)
		checkIncluded(t, both, word, false)
	}
}

func TestTwoLanguages(t *testing.T) {
	withoutTakingLong(t, func() {
		two := append(automataOf(1), automataOf(2)...)
		equal := 0
		for i, a := range two {
			for _, b := range two[:i+1] {
				if checkTwo(t, a, b) {
					equal++
				}
			}
		}
		if equal < 300 {
			t.Errorf("only %d pairs of small automata have the same language", equal)
		}
		list := slices.Concat(randomAutomata(120), smallAutomata(100), sparseAutomata(120))
		for i, a := range list {
			checkTwo(t, a, list[(i+1)%len(list)])
			checkTwo(t, a, list[(i+77)%len(list)])
			other := copyOfAutomaton(a)
			q := i % len(a.Accept)
			other.Accept[q] = !other.Accept[q]
			checkTwo(t, a, other)
		}
	})
}

func powerOf3(n int) int {
	power := 1
	for range n {
		power *= 3
	}
	return power
}

func TestCountWords(t *testing.T) {
	for n := range 21 {
		checkCount(t, statesOf(everyWord), n, powerOf3(n))
		checkCount(t, statesOf("+123 +123 +031 +111"), n, powerOf3(n))
		checkCount(t, counter(40, "abc", isAnyNumber), n, powerOf3(n))
		checkCount(t, statesOf(noWord), n, 0)
		checkCount(t, statesOf("-111 -000 +012"), n, 0)
		checkCount(t, statesOf(onlyA), n, 1)
		checkCount(t, statesOf("+001 -111"), n, 1<<n)
		checkCount(t, statesOf(evenNumber), n, (powerOf3(n)+1)/2)
		checkCount(t, statesOf(oddNumber), n, (powerOf3(n)-1)/2)
		for k := range 39 {
			want := 0
			if k == n {
				want = powerOf3(n)
			}
			checkCount(t, wordsOfExactly(k), n, want)
		}
	}
	for text, want := range map[string][]int{
		emptyWord: {1, 0, 0}, notEmpty: {0, 3, 9, 27}, wordA: {0, 1, 0, 0}, emptyOrA: {1, 1, 0, 0}, endsWithB: {0, 1, 3, 9}, beginsWithA: {0, 1, 3, 9},
		"+122 -022 -222": {1, 0, 1, 0, 1}, "-123 -545 -455 -554 +555 -555": {0, 0, 3, 0}, "+111 -000": {1, 0, 9, 0, 81},
	} {
		for n, count := range want {
			checkCount(t, statesOf(text), n, count)
		}
	}
	checkCount(t, statesOf(everyWord), 20, 3486784401)
	checkCount(t, counter(40, "a", func(q int) bool { return q == 20 }), 20, 1)
	checkCount(t, counter(40, "a", func(q int) bool { return q == 10 }), 20, 184756*1024)
}

func TestCountWordsOfOtherLengths(t *testing.T) {
	for _, d := range []impl.Dfa{statesOf(everyWord), statesOf(notEmpty), counter(40, "abc", isAnyNumber), wordsOfExactly(21), wordsOfExactly(22)} {
		for _, n := range []int{-1, -2, -3, -20, -21, 21, 22, 23, 30, 31, 40, 256, 1 << 32, 1<<32 + 1, math.MinInt, math.MinInt + 1, math.MaxInt} {
			checkCount(t, d, n, 0)
		}
	}
}

func TestIsFinite(t *testing.T) {
	for text, want := range map[string]bool{
		noWord: true, emptyWord: true, wordA: true, wordB: true, emptyOrA: true, "-123 -545 -455 -554 +555 -555": true,
		everyWord: false, notEmpty: false, onlyA: false, onlyB: false, evenNumber: false, oddNumber: false, endsWithB: false, beginsWithA: false,
		// A loop is not reached.
		"+111 -111 +222":           true,
		"+111 -111 -222 +213":      true,
		"-111 +222 -222 +443 -333": true,
		// It is reached, but leads to no accepting state.
		"+122 -111 -222":      true,
		"-122 +222 -333 -222": true,
		"+112 -221 -112":      true,
		"-122 -111 +333 -333": true,
		// It lies on the way to an accepting state, goes through one, or leads back to state 0.
		"-122 -311 -222 +222":      false,
		"-012 -111 +222":           false,
		"-120 +222 -222":           false,
		"-122 +211 -222":           false,
		"-122 -322 -222 +422 +422": false,
		"-122 -322 -222 +422 -322": false,
		"-122 -322 -222 -044 +222": false,
		"+122 -322 -222 -022":      false,
	} {
		d := statesOf(text)
		checkFinite(t, d, want)
		checkFinite(t, withUnreached(d), want)
		checkFinite(t, impl.MinimizeDfa(d), want)
	}
}

func TestIsFiniteOfManyStates(t *testing.T) {
	for n := range 39 {
		checkFinite(t, wordsOfExactly(n), true)
		checkFinite(t, impl.ComplementDfa(wordsOfExactly(n)), false)
		// The last state of the line leads back to a state before it, or to itself.
		for back := range n + 1 {
			d := wordsOfExactly(n)
			d.Next[n] = []int{n + 1, back, n + 1}
			checkFinite(t, d, false)
			d.Accept[n] = false
			checkFinite(t, d, true)
		}
	}
	for n := 1; n <= 40; n++ {
		for _, letters := range []string{"a", "b", "c", "abc", ""} {
			checkFinite(t, counter(n, letters, func(q int) bool { return q == n-1 }), letters == "" && n > 1)
			checkFinite(t, counter(n, letters, func(int) bool { return false }), true)
		}
	}
}

func TestAcceptedWords(t *testing.T) {
	for text, want := range map[string][]string{
		noWord: nil, emptyWord: {""}, wordA: {"a"}, wordB: {"b"}, emptyOrA: {"", "a"}, onlyA: {"", "a", "aa"},
		everyWord:                       {"", "a", "b", "c", "aa", "ab", "ac", "ba", "bb", "bc", "ca", "cb", "cc"},
		notEmpty:                        {"a", "b", "c", "aa", "ab", "ac", "ba", "bb", "bc", "ca", "cb", "cc"},
		endsWithB:                       {"b", "ab", "bb", "cb"},
		beginsWithA:                     {"a", "aa", "ab", "ac"},
		evenNumber:                      {"", "b", "c", "aa", "bb", "bc", "cb", "cc"},
		"-000 +111":                     nil,
		"-123 -545 -455 -554 +555 -555": {"ab", "ba", "cc"},
	} {
		checkAccepted(t, statesOf(text), 2, want)
		checkAccepted(t, withUnreached(statesOf(text)), 2, want)
	}
}

func TestAcceptedWordsUpToTheLimit(t *testing.T) {
	every := statesOf(everyWord)
	for most, count := range []int{1, 4, 13, 40, 121, 364} {
		checkAccepted(t, every, most, stringsOver("abc", most))
		if got := len(impl.AcceptedWords(every, most)); got != count {
			t.Errorf("there are %d words of at most %d letters", got, most)
		}
		checkAccepted(t, statesOf(notEmpty), most, stringsOver("abc", most)[1:])
	}
	for _, most := range []int{5, 6, 7, 20, 30, 31, 1 << 32, math.MaxInt} {
		checkAccepted(t, every, most, stringsOver("abc", 5))
		checkAccepted(t, statesOf(onlyA), most, []string{"", "a", "aa", "aaa", "aaaa", "aaaaa"})
		checkAccepted(t, wordsOfExactly(5), most, stringsOver("abc", 5)[121:])
		checkAccepted(t, wordsOfExactly(6), most, nil)
		checkAccepted(t, statesOf(noWord), most, nil)
	}
	for _, d := range languageExamples() {
		for _, most := range []int{-1, -2, -5, -6, math.MinInt, math.MinInt + 5} {
			checkAccepted(t, d, most, nil)
		}
	}
}

func lengthsOfText(text string) []bool {
	var list []bool
	for _, sign := range text {
		list = append(list, sign == '+')
	}
	return list
}

func TestLengthsOf(t *testing.T) {
	for text, want := range map[string]struct {
		list   string
		period int
	}{
		// The set is met again at once.
		noWord: {"-", 1}, everyWord: {"+", 1}, "-000 +111": {"-", 1}, "+000 -111": {"+", 1},
		// It is met again at index 0, after more letters.
		"+111 -000":                {"+-", 2},
		"+111 +000":                {"++", 2},
		"-111 -222 +000":           {"--+", 3},
		"+123 -444 -444 -444 +000": {"+-+", 3},
		// It is met again at a later index, with a period of one.
		emptyWord: {"+-", 1}, notEmpty: {"-+", 1}, wordA: {"-+-", 1}, emptyOrA: {"++-", 1}, onlyA: {"++", 1}, onlyB: {"++", 1},
		evenNumber: {"++", 1}, oddNumber: {"-+", 1}, endsWithB: {"-+", 1}, beginsWithA: {"-+", 1},
		"-111 -222 -333 +333": {"---+", 1},
		"-112 -111 +111":      {"-+-", 1},
		"-112 -111 +222":      {"-+", 1},
		// And with a longer one.
		"+122 -022 -222":           {"+-+", 2},
		"+122 -202 -222":           {"+-+", 2},
		"-111 -222 +111":           {"--+", 2},
		"-111 -222 +333 -444 -222": {"--+--", 3},
		// All lengths but 0 are accepted, but not from the same states.
		"-111 +222 +111":           {"-++", 2},
		"-111 +222 +333 +111":      {"-+++", 3},
		"-123 -444 +333 -222 -111": {"-++", 2},
	} {
		checkLengths(t, statesOf(text), lengthsOfText(want.list), want.period)
		checkLengths(t, withUnreached(statesOf(text)), lengthsOfText(want.list), want.period)
	}
}

func TestLengthsOfLinesAndCounters(t *testing.T) {
	for n := range 39 {
		// After n+1 letters, and more, only the last state is reached.
		checkLengths(t, wordsOfExactly(n), lengthsOfText(strings.Repeat("-", n)+"+-"), 1)
	}
	for n := 1; n <= 40; n++ {
		line := strings.Repeat("-", n-1)
		isLast := func(q int) bool { return q == n-1 }
		checkLengths(t, counter(n, "abc", isZeroNumber), lengthsOfText("+"+line), n)
		checkLengths(t, counter(n, "abc", isLast), lengthsOfText(line+"+"), n)
		checkLengths(t, counter(n, "abc", isAnyNumber), slices.Repeat([]bool{true}, n), n)
		// With a letter that is not counted, every state stays reached.
		checkLengths(t, counter(n, "b", isLast), lengthsOfText(line+"+"), 1)
		checkLengths(t, counter(n, "", isZeroNumber), []bool{true}, 1)
		for m := 1; n+m <= 40; m++ {
			d := counter(n+m, "abc", isZeroNumber)
			d.Next[n+m-1] = []int{n, n, n}
			checkLengths(t, d, lengthsOfText("+"+strings.Repeat("-", n+m-1)), m)
		}
	}
}

func TestLengthsOfCycles(t *testing.T) {
	for _, c := range []struct {
		sizes  []int
		period int
	}{
		{[]int{1}, 1}, {[]int{39}, 39}, {[]int{2, 3}, 6}, {[]int{6, 4}, 12}, {[]int{5, 5, 5}, 5}, {[]int{2, 3, 5}, 30}, {[]int{19, 20}, 380}, {[]int{11, 13, 15}, 2145},
	} {
		var want []bool
		for n := range c.period + 1 {
			want = append(want, n > 0 && slices.ContainsFunc(c.sizes, func(size int) bool { return n%size == 0 }))
		}
		d := cyclesFrom(c.sizes...)
		checkLengths(t, d, want, c.period)
		checkFinite(t, d, false)
	}
}

// The cycles have 4, 5, 7, 9 and 13 states: the set is met again after the product of these numbers.
func TestLengthsOfManySets(t *testing.T) {
	d := impl.Dfa{Accept: []bool{false, false}, Next: [][]int{{1, 0, 0}, {0, 0, 0}}}
	d = withCycle(withCycle(d, 0, 1, 4), 0, 2, 5)
	d = withCycle(withCycle(withCycle(d, 1, 0, 7), 1, 1, 9), 1, 2, 13)
	if len(d.Accept) != 40 {
		t.Fatalf("there are %d states", len(d.Accept))
	}
	var want []bool
	for n := range 2 + 16380 {
		fromFirst := n > 0 && (n%4 == 0 || n%5 == 0)
		fromSecond := n > 1 && ((n-1)%7 == 0 || (n-1)%9 == 0 || (n-1)%13 == 0)
		want = append(want, fromFirst || fromSecond)
	}
	withoutTakingLong(t, func() {
		list, period := impl.LengthsOf(d)
		if !slices.Equal(list, want) || period != 16380 {
			t.Errorf("LengthsOf has %d elements, and the period %d", len(list), period)
		}
		checkFinite(t, d, false)
		none := impl.Dfa{Accept: make([]bool, 40), Next: d.Next}
		list, period = impl.LengthsOf(none)
		if len(list) != 2+16380 || slices.Contains(list, true) || period != 16380 {
			t.Errorf("LengthsOf has %d elements, and the period %d", len(list), period)
		}
		checkFinite(t, none, true)
	})
}

// Promise 7, its first part.
func TestAutomataOfOneLanguageHaveOneMinimalAutomaton(t *testing.T) {
	list := append(automataOf(1), automataOf(2)...)
	for text, words := range sameExpressions {
		list = append(list, statesOf(text))
		for _, r := range words {
			d, _ := impl.CompileRegex(parsed(t, r))
			list = append(list, d)
		}
	}
	results := map[bool]int{}
	for i, a := range list {
		for _, b := range list[:i] {
			_, differ := impl.DifferWord(a, b)
			results[differ]++
			if same := reflect.DeepEqual(impl.MinimizeDfa(a), impl.MinimizeDfa(b)); same == differ {
				t.Errorf("the minimal automata of %v and %v are equal: %v, but a word differs: %v", a, b, same, differ)
			}
			if included := impl.IsIncluded(a, b) && impl.IsIncluded(b, a); included == differ {
				t.Errorf("%v and %v are included in each other: %v, but a word differs: %v", a, b, included, differ)
			}
		}
	}
	if results[true] < 1000 || results[false] < 1000 {
		t.Errorf("%d pairs differ, and %d do not", results[true], results[false])
	}
}

// Promise 7, its second part.
func TestCompiledAutomataAcceptTheWordsThatMatch(t *testing.T) {
	words := stringsOver("abc", 5)
	check := func(r impl.Regex) {
		d, ok := impl.CompileRegex(r)
		if !ok {
			t.Errorf("CompileRegex of %s fails", textWithoutLimits(r))
			return
		}
		var matching []string
		counts := make([]int, 6)
		for _, s := range words {
			if impl.MatchRegex(r, s) {
				matching = append(matching, s)
				counts[len(s)]++
			}
		}
		checkAccepted(t, d, 5, matching)
		for n, count := range counts {
			checkCount(t, d, n, count)
		}
		if s, _ := impl.ShortestWord(d); len(matching) > 0 && s != matching[0] {
			t.Errorf("ShortestWord for %s is %q, but %q matches", textWithoutLimits(r), s, matching[0])
		}
	}
	for _, e := range expressionsUpTo(4) {
		check(e.regex)
	}
	for nodes := 5; nodes <= 16; nodes++ {
		for _, r := range expressionsOfSize(20, nodes, min(6, nodes-2)) {
			check(r)
		}
	}
}

func TestShortestWordOfTheAutomatonOfAWord(t *testing.T) {
	words := stringsOver("abc", 5)
	for _, s := range longestWords() {
		for n := range 31 {
			words = append(words, s[:n], s[n:])
		}
	}
	for _, s := range words {
		d, ok := impl.WordDfa(s)
		if !ok {
			t.Fatalf("WordDfa(%q) fails", s)
		}
		checkShortest(t, d, s, true)
		checkDiffer(t, d, statesOf(noWord), s, true)
		checkFinite(t, d, true)
		list, _ := impl.LengthsOf(d)
		if slices.Index(list, true) != len(s) {
			t.Errorf("LengthsOf(WordDfa(%q)) = %v", s, list)
		}
	}
}

func TestLanguageResultsAreNewMemory(t *testing.T) {
	for _, d := range slices.Concat(languageExamples(), randomAutomata(100)) {
		places, count := map[any]bool{}, 0
		for range 2 {
			lengths, _ := impl.LengthsOf(d)
			words := impl.AcceptedWords(d, 3)
			lengths, words = lengths[:cap(lengths)], words[:cap(words)]
			for i := range lengths {
				places[&lengths[i]] = true
			}
			for i := range words {
				places[&words[i]] = true
			}
			count += len(lengths) + len(words)
		}
		count += memoryOf(d, places)
		if len(places) != count {
			t.Errorf("results for %v share memory with it or with each other", d)
		}
	}
}

// callLanguageFunctions calls all functions of the chapter.
func callLanguageFunctions(a impl.Dfa, b impl.Dfa) {
	impl.ShortestWord(a)
	impl.DifferWord(a, b)
	impl.IsIncluded(a, b)
	impl.IsFinite(a)
	impl.LengthsOf(a)
	for _, n := range []int{-1, 0, 2, 20, 21} {
		impl.CountWords(a, n)
		impl.AcceptedWords(a, n)
	}
}

func TestLanguageFunctionsKeepTheirArguments(t *testing.T) {
	list := slices.Concat(languageExamples(), randomAutomata(100))
	for name, d := range invalidAutomata() {
		if !strings.Contains(name, "100000") {
			list = append(list, d)
		}
	}
	for i, d := range list {
		other := list[len(list)-1-i]
		a, b := withUnusedMemory(d), withUnusedMemory(other)
		callLanguageFunctions(a, b)
		callLanguageFunctions(b, a)
		callLanguageFunctions(a, a)
		if !hasSameMemory(a, withUnusedMemory(d)) || !hasSameMemory(b, withUnusedMemory(other)) {
			t.Fatalf("an argument is changed to %v or %v", a, b)
		}
	}
}
