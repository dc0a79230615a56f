package tests

import (
	"math/rand/v2"
	"reflect"
	"slices"
	"strings"
	"testing"

	"loop.example/g00582/impl"
)

// subsets is a construction of the document. An element is a string: the numbers of states in a set are its bytes, ascending.
type subsets struct {
	first   string
	after   func(element string, letter int) string
	accepts func(element string) bool
}

func setAfter(d impl.Dfa, set string, letter int) string {
	var next []byte
	for i := range len(set) {
		next = append(next, byte(d.Next[set[i]][letter]))
	}
	slices.Sort(next)
	return string(slices.Compact(next))
}

func withStart(set string) string {
	if strings.HasPrefix(set, "\x00") {
		return set
	}
	return "\x00" + set
}

func hasAccepting(d impl.Dfa, set string) bool {
	return slices.ContainsFunc([]byte(set), func(q byte) bool { return d.Accept[q] })
}

// concatSubsets puts the state of a before the set.
func concatSubsets(a impl.Dfa, b impl.Dfa) subsets {
	element := func(q int, set string) string {
		if a.Accept[q] {
			set = withStart(set)
		}
		return string([]byte{byte(q)}) + set
	}
	return subsets{
		first:   element(0, ""),
		after:   func(e string, letter int) string { return element(a.Next[e[0]][letter], setAfter(b, e[1:], letter)) },
		accepts: func(e string) bool { return hasAccepting(b, e[1:]) },
	}
}

func starSubsets(d impl.Dfa) subsets {
	const special = "special"
	return subsets{
		first: special,
		after: func(e string, letter int) string {
			if e == special {
				e = withStart("")
			}
			next := setAfter(d, e, letter)
			if hasAccepting(d, next) {
				return withStart(next)
			}
			return next
		},
		accepts: func(e string) bool { return e == special || hasAccepting(d, e) },
	}
}

// automaton has a state for each element; it is not complete if there are more than 2000.
func (s subsets) automaton() impl.Dfa {
	var d impl.Dfa
	elements := []string{s.first}
	numbers := map[string]int{s.first: 0}
	for i := 0; i < len(elements) && i < 2000; i++ {
		var row []int
		for letter := range 3 {
			e := s.after(elements[i], letter)
			if _, seen := numbers[e]; !seen {
				numbers[e] = len(elements)
				elements = append(elements, e)
			}
			row = append(row, numbers[e])
		}
		d.Accept = append(d.Accept, s.accepts(elements[i]))
		d.Next = append(d.Next, row)
	}
	return d
}

// classCount returns the number of states of the minimal automaton, if all states of d are reached.
func classCount(d impl.Dfa) int {
	classes, count := make([]int, len(d.Accept)), 0
	for q, accepts := range d.Accept {
		if accepts {
			classes[q] = 1
		}
	}
	for {
		numbers := map[[4]int]int{}
		finer := make([]int, len(classes))
		for q, row := range d.Next {
			key := [4]int{classes[q], classes[row[0]], classes[row[1]], classes[row[2]]}
			if _, seen := numbers[key]; !seen {
				numbers[key] = len(numbers)
			}
			finer[q] = numbers[key]
		}
		if len(numbers) == count {
			return count
		}
		classes, count = finer, len(numbers)
	}
}

const (
	fewElements     = "at most 40 elements"
	fewStates       = "more than 40 elements, but at most 40 states"
	tooManyStates   = "more than 40 states"
	tooManyElements = "more than 400 elements"
)

// checkSubsets checks a result with the construction itself, for all words, and tells what comes out.
func checkSubsets(t *testing.T, name string, got impl.Dfa, ok bool, s subsets) string {
	t.Helper()
	want := s.automaton()
	outcome := fewElements
	switch {
	case len(want.Accept) > 400:
		outcome = tooManyElements
	case classCount(want) > 40:
		outcome = tooManyStates
	case len(want.Accept) > 40:
		outcome = fewStates
	}
	fails := outcome == tooManyElements || outcome == tooManyStates
	if ok == fails || fails && !isZeroAutomaton(got) {
		t.Errorf("%s = %v, %v, but there are %s", name, got, ok, outcome)
	} else if ok {
		checkMinimal(t, name, got, want, want, isFirst)
	}
	return outcome
}

func checkConcat(t *testing.T, a impl.Dfa, b impl.Dfa) string {
	t.Helper()
	got, ok := impl.ConcatDfa(a, b)
	return checkSubsets(t, "ConcatDfa", got, ok, concatSubsets(a, b))
}

func checkStar(t *testing.T, d impl.Dfa) string {
	t.Helper()
	got, ok := impl.StarDfa(d)
	return checkSubsets(t, "StarDfa", got, ok, starSubsets(d))
}

func checkThatConcatIs(t *testing.T, a impl.Dfa, b impl.Dfa, want impl.Dfa) {
	t.Helper()
	if got, ok := impl.ConcatDfa(a, b); !ok || !reflect.DeepEqual(got, want) {
		t.Errorf("ConcatDfa(%v, %v) = %v, %v, want %v", a, b, got, ok, want)
	}
}

func checkThatStarIs(t *testing.T, d impl.Dfa, want impl.Dfa) {
	t.Helper()
	if got, ok := impl.StarDfa(d); !ok || !reflect.DeepEqual(got, want) {
		t.Errorf("StarDfa(%v) = %v, %v, want %v", d, got, ok, want)
	}
}

func checkNoConcat(t *testing.T, name string, a impl.Dfa, b impl.Dfa) {
	t.Helper()
	if got, ok := impl.ConcatDfa(a, b); ok || !isZeroAutomaton(got) {
		t.Errorf("ConcatDfa of %s = %v, %v", name, got, ok)
	}
}

func checkNoStar(t *testing.T, name string, d impl.Dfa) {
	t.Helper()
	if got, ok := impl.StarDfa(d); ok || !isZeroAutomaton(got) {
		t.Errorf("StarDfa of %s = %v, %v", name, got, ok)
	}
}

func languageOf(d impl.Dfa, n int) language {
	list := language{}
	for _, s := range stringsOver("abc", n) {
		if d.Accept[stateAfter(d, 0, s)] {
			list[s] = true
		}
	}
	return list
}

func checkWords(t *testing.T, name string, got impl.Dfa, want language) {
	t.Helper()
	for _, s := range stringsOver("abc", 5) {
		if impl.AcceptsWord(got, s) != want[s] {
			t.Errorf("%s = %v accepts %q: %v", name, got, s, !want[s])
		}
	}
}

// smallAutomata returns automata of 1 to 4 states, always the same ones.
func smallAutomata(n int) []impl.Dfa {
	random := rand.New(rand.NewPCG(6, uint64(n)))
	var list []impl.Dfa
	for range n {
		list = append(list, randomAutomaton(random, 1+random.IntN(4)))
	}
	return list
}

// withUnreached adds states that are not reached, but lead to the others.
func withUnreached(d impl.Dfa) impl.Dfa {
	n := len(d.Accept)
	return impl.Dfa{
		Accept: append(slices.Clone(d.Accept), true, false, true),
		Next:   append(slices.Clone(d.Next), []int{0, n, n + 1}, []int{n + 2, 0, n - 1}, []int{n - 1, n, n}),
	}
}

// sameLanguages returns automata of the language of d, which may have at most 10 states.
func sameLanguages(random *rand.Rand, d impl.Dfa) []impl.Dfa {
	copies := withCopies(random, d, len(d.Accept)+2)
	return []impl.Dfa{d, withUnreached(d), withOtherNumbers(random, withUnreached(d)), copies, withOtherNumbers(random, copies)}
}

// The automata of some languages. Not all of these are minimal, nor numbered as minimal ones are.
const (
	noWord      = "-000"
	everyWord   = "+000"
	emptyWord   = "+111 -111"
	wordA       = "-122 +222 -222"
	wordB       = "-212 +222 -222"
	emptyOrA    = "+122 +222 -222"
	onlyA       = "+011 -111"
	onlyB       = "+101 -111"
	evenNumber  = "+100 -011"
	oddNumber   = "-100 +011"
	endsWithB   = "-010 +010"
	beginsWithA = "-122 +111 -222"
	notEmpty    = "-111 +111"
)

func TestMaxSubsets(t *testing.T) {
	if impl.MaxSubsets != 400 {
		t.Errorf("MaxSubsets = %d", impl.MaxSubsets)
	}
}

func TestConcatDfa(t *testing.T) {
	random := rand.New(rand.NewPCG(6, 1))
	for _, c := range [][3]string{
		{noWord, noWord, noWord},
		{noWord, everyWord, noWord},
		{everyWord, noWord, noWord},
		{noWord, emptyWord, noWord},
		{emptyWord, noWord, noWord},
		{noWord, evenNumber, noWord},
		{oddNumber, noWord, noWord},
		{everyWord, everyWord, everyWord},
		{everyWord, emptyOrA, everyWord},
		{onlyB, everyWord, everyWord},
		{notEmpty, everyWord, notEmpty},
		{everyWord, notEmpty, notEmpty},
		{notEmpty, notEmpty, "-111 -222 +222"},
		{emptyWord, emptyWord, emptyWord},
		{wordA, wordA, "-122 -322 -222 +222"},
		{wordA, wordB, "-122 -232 -222 +222"},
		{wordB, wordA, "-121 -111 -311 +111"},
		{wordB, wordB, "-121 -111 -131 +111"},
		{emptyOrA, emptyOrA, "+122 +322 -222 +222"},
		{emptyOrA, wordA, "-122 +322 -222 +222"},
		{wordA, emptyOrA, "-122 +322 -222 +222"},
		{emptyOrA, wordB, "-123 -323 +333 -333"},
		{wordB, emptyOrA, "-121 -111 +311 +111"},
		{onlyA, onlyA, onlyA},
		{onlyA, onlyB, "+012 +212 -222"},
		{onlyB, onlyA, "+102 +122 -222"},
		{onlyA, wordA, "-122 +122 -222"},
		{wordA, onlyA, "-122 +122 -222"},
		{everyWord, wordA, "-100 +100"},
		{wordA, everyWord, beginsWithA},
		{beginsWithA, everyWord, beginsWithA},
		{everyWord, beginsWithA, "-100 +111"},
		{endsWithB, endsWithB, "-010 -121 +121"},
		{beginsWithA, endsWithB, "-122 -131 -222 +131"},
		{evenNumber, evenNumber, evenNumber},
		{evenNumber, oddNumber, oddNumber},
		{oddNumber, evenNumber, oddNumber},
		{oddNumber, oddNumber, "-100 -211 +122"},
		{evenNumber, wordA, "-100 +022 -022"},
		{wordA, evenNumber, "-122 +311 -222 -133"},
	} {
		want := statesOf(c[2])
		for _, a := range sameLanguages(random, statesOf(c[0])) {
			for _, b := range sameLanguages(random, statesOf(c[1])) {
				checkThatConcatIs(t, a, b, want)
				checkConcat(t, a, b)
			}
		}
	}
}

func TestStarDfa(t *testing.T) {
	random := rand.New(rand.NewPCG(6, 2))
	for text, want := range map[string]string{
		noWord:      emptyWord,
		everyWord:   everyWord,
		emptyWord:   emptyWord,
		notEmpty:    everyWord,
		wordA:       onlyA,
		emptyOrA:    onlyA,
		onlyA:       onlyA,
		beginsWithA: "+122 +111 -222",
		// The words that lead back to state 0 are accepted if this state is, and otherwise only the empty word is.
		evenNumber:                 evenNumber,
		"+100 -000":                "+100 -000",
		"+001 -011":                "+001 -011",
		oddNumber:                  "+122 +111 -122",
		endsWithB:                  "+101 -101",
		"-001 +222 -222":           "+110 -110",
		"-100 -200 +200":           "+122 -322 -122 +322",
		"-122 -232 -222 +222":      "+122 -202 -222",
		"+122 -322 -222 +222":      "+122 -022 -222",
		"-111 +222 -222":           everyWord,
		"-111 -222 +333 -333":      "+111 -000",
		"-111 -222 +333 +444 -444": "+111 -222 +222",
		"-123 -323 +333 -333":      "+102 -202 -222",
	} {
		for _, d := range sameLanguages(random, statesOf(text)) {
			checkThatStarIs(t, d, statesOf(want))
			checkStar(t, d)
		}
	}
}

func TestConcatDfaWithTheEmptyWord(t *testing.T) {
	empty, none := statesOf(emptyWord), statesOf(noWord)
	list := append(randomAutomata(200), counter(40, "a", isZeroNumber), counter(40, "ab", isEvenNumber), counter(40, "", isAnyNumber), wordsOfExactly(38))
	for _, d := range append(list, smallAutomata(200)...) {
		least := impl.MinimizeDfa(d)
		checkThatConcatIs(t, d, empty, least)
		checkThatConcatIs(t, empty, d, least)
		checkThatConcatIs(t, d, none, none)
		checkThatConcatIs(t, none, d, none)
	}
}

func TestStarDfaTwice(t *testing.T) {
	found := 0
	list := append(randomAutomata(400), counter(40, "a", isZeroNumber), counter(40, "ab", isEvenNumber), wordsOfExactly(38))
	for _, d := range append(list, smallAutomata(400)...) {
		star, ok := impl.StarDfa(d)
		if !ok {
			continue
		}
		found++
		checkThatStarIs(t, star, star)
		checkThatConcatIs(t, star, star, star)
		if !impl.AcceptsWord(star, "") {
			t.Errorf("StarDfa(%v) does not accept the empty word", d)
		}
	}
	if found < 400 {
		t.Errorf("only %d repetitions are found", found)
	}
}

func TestConcatDfaAndStarDfaOfEverySmallAutomaton(t *testing.T) {
	one, two := automataOf(1), automataOf(2)
	for _, a := range append(one, two...) {
		checkStar(t, a)
		for _, b := range one {
			checkConcat(t, a, b)
			checkConcat(t, b, a)
		}
		for i, b := range two {
			if i%5 == 0 {
				checkConcat(t, a, b)
				checkConcat(t, b, a)
			}
		}
	}
	for i, d := range automataOf(3) {
		if i%7 == 0 {
			checkStar(t, d)
		}
	}
}

func TestConcatDfaAndStarDfaOfRandomAutomata(t *testing.T) {
	list := randomAutomata(600)
	for i, d := range smallAutomata(1200) {
		list = append(list, d)
		if i%4 == 0 {
			list = append(list, withUnreached(d))
		}
	}
	concats, stars := map[string]int{}, map[string]int{}
	withoutTakingLong(t, func() {
		for i, d := range list {
			concats[checkConcat(t, d, list[(i+1)%len(list)])]++
			stars[checkStar(t, d)]++
		}
	})
	for _, outcome := range []string{fewElements, fewStates, tooManyStates, tooManyElements} {
		if concats[outcome] < 20 || stars[outcome] < 20 {
			t.Errorf("there are only %d concatenations and %d repetitions with %s", concats[outcome], stars[outcome], outcome)
		}
	}
}

// emptyWordThen accepts the empty word alone; behind it, there are n states that count the letter a.
func emptyWordThen(n int) impl.Dfa {
	d := impl.Dfa{Accept: []bool{true}, Next: [][]int{{1, 1, 1}}}
	for i := range n {
		d.Accept = append(d.Accept, false)
		d.Next = append(d.Next, []int{(i+1)%n + 1, i + 1, i + 1})
	}
	return d
}

func checkElements(t *testing.T, name string, s subsets, want int) {
	t.Helper()
	if got := len(s.automaton().Accept); got != want {
		t.Errorf("the construction for %s has %d elements, want %d", name, got, want)
	}
}

func TestConcatDfaElements(t *testing.T) {
	checkElements(t, "exactly MaxSubsets", concatSubsets(emptyWordThen(19), counter(21, "b", isZeroNumber)), 400)
	checkElements(t, "exactly MaxSubsets", concatSubsets(emptyWordThen(21), counter(19, "b", isZeroNumber)), 400)
	checkElements(t, "one more", concatSubsets(emptyWordThen(20), counter(20, "b", isZeroNumber)), 401)
	checkElements(t, "many more", concatSubsets(emptyWordThen(39), counter(40, "b", isZeroNumber)), 1561)
	// After the first letter, both automata count on their own.
	for n := 1; n <= 39; n++ {
		for m := 1; m <= 40; m++ {
			for _, b := range []impl.Dfa{counter(m, "b", isZeroNumber), counter(m, "b", isAnyNumber)} {
				if 1+n*m <= 400 {
					checkThatConcatIs(t, emptyWordThen(n), b, impl.MinimizeDfa(b))
				} else {
					checkNoConcat(t, "automata with many elements", emptyWordThen(n), b)
				}
			}
		}
	}
}

// twoLines accepts what ends with c. From there, there are n states for the letters a, and from state 0, m ones for the letters b.
func twoLines(n int, m int) impl.Dfa {
	var d impl.Dfa
	last := n + m
	for q := range m {
		d.Next = append(d.Next, []int{q, min(q+1, m-1), last})
	}
	for i := range n {
		d.Next = append(d.Next, []int{m + min(i+1, n-1), m + i, last})
	}
	d.Next = append(d.Next, []int{m + 1, m, last})
	d.Accept = make([]bool, last+1)
	d.Accept[last] = true
	return d
}

func TestStarDfaElements(t *testing.T) {
	checkElements(t, "exactly MaxSubsets", starSubsets(twoLines(18, 21)), 400)
	checkElements(t, "exactly MaxSubsets", starSubsets(twoLines(20, 19)), 400)
	checkElements(t, "one more", starSubsets(twoLines(19, 20)), 401)
	// Each place in one line occurs with each in the other one, but for both first ones, and that of b also alone.
	for n := 2; n <= 37; n++ {
		for m := 2; n+m <= 39; m++ {
			if 1+m*(n+1) <= 400 {
				checkThatStarIs(t, twoLines(n, m), statesOf("+110 -110"))
			} else {
				checkNoStar(t, "an automaton with many elements", twoLines(n, m))
			}
		}
	}
	checkThatStarIs(t, impl.MinimizeDfa(twoLines(19, 20)), statesOf("+110 -110"))
	other := statesOf("+001 +637 +359 -970 +467 +047 -191 +823 +716 +782")
	checkElements(t, "one more", starSubsets(other), 401)
	checkNoStar(t, "another automaton with one element more", other)
}

// lastLetters accepts all words. If words are begun at each letter, the states 1 to k tell which of the last k letters are a.
func lastLetters(k int) impl.Dfa {
	var d impl.Dfa
	for q := range k + 1 {
		d.Accept = append(d.Accept, true)
		d.Next = append(d.Next, slices.Repeat([]int{(q + 1) % (k + 1)}, 3))
	}
	d.Next[0] = []int{1, 0, 0}
	return d
}

// letterOrLast is like lastLetters, but accepts only words after which state 1 or its last state is reached: those of one
// letter, so that a word is begun at each letter, and some others.
func letterOrLast(k int) impl.Dfa {
	d := lastLetters(k)
	d.Accept = make([]bool, k+2)
	d.Accept[1], d.Accept[k+1] = true, true
	d.Next[0] = []int{1, k + 1, k + 1}
	d.Next = append(d.Next, []int{0, 0, 0})
	return d
}

func TestExponentiallyManyElements(t *testing.T) {
	every := statesOf(everyWord)
	checkElements(t, "ConcatDfa", concatSubsets(every, lastLetters(8)), 256)
	checkElements(t, "ConcatDfa", concatSubsets(every, lastLetters(9)), 512)
	checkElements(t, "StarDfa", starSubsets(letterOrLast(8)), 257)
	checkElements(t, "StarDfa", starSubsets(letterOrLast(9)), 513)
	withoutTakingLong(t, func() {
		for k := 1; k <= 38; k++ {
			if k <= 8 {
				checkThatConcatIs(t, every, lastLetters(k), every)
				checkThatStarIs(t, letterOrLast(k), every)
			} else {
				checkNoConcat(t, "automata with exponentially many elements", every, lastLetters(k))
				checkNoStar(t, "an automaton with exponentially many elements", letterOrLast(k))
			}
		}
		checkNoConcat(t, "automata with exponentially many elements", every, lastLetters(39))
	})
}

// wordsOfLengths accepts the words of some numbers of letters.
func wordsOfLengths(lengths ...int) impl.Dfa {
	d := wordsOfExactly(slices.Max(lengths))
	for _, n := range lengths {
		d.Accept[n] = true
	}
	return d
}

func TestConcatDfaOfMaxStates(t *testing.T) {
	for n := range 39 {
		checkThatConcatIs(t, wordsOfExactly(n), wordsOfExactly(38-n), wordsOfExactly(38))
		checkConcat(t, wordsOfExactly(n), counter(40, "a", isZeroNumber))
		checkConcat(t, counter(40, "abc", isEvenNumber), wordsOfExactly(n))
		for more := 1; n > 0 && more <= n; more++ {
			checkNoConcat(t, "words with too many letters", wordsOfExactly(n), wordsOfExactly(38-n+more))
		}
	}
	for _, letters := range []string{"a", "b", "c", "ab", "abc"} {
		most := counter(40, letters, isZeroNumber)
		checkThatConcatIs(t, most, most, most)
		checkConcat(t, most, counter(40, "a", isZeroNumber))
		checkConcat(t, most, counter(40, "b", isEvenNumber))
	}
	// The words of up to n letters have n+2 states.
	upTo := func(n int) impl.Dfa {
		return impl.Dfa{Accept: append(slices.Repeat([]bool{true}, n+1), false), Next: wordsOfExactly(n).Next}
	}
	for n := range 39 {
		checkThatConcatIs(t, upTo(n), upTo(38-n), upTo(38))
		if n > 0 {
			checkNoConcat(t, "words with too many letters", upTo(n), upTo(39-n))
		}
	}
}

func TestStarDfaOfMaxStates(t *testing.T) {
	for _, letters := range []string{"a", "b", "c", "ab", "abc"} {
		most := counter(40, letters, isZeroNumber)
		checkThatStarIs(t, most, most)
		checkStar(t, counter(40, letters, isEvenNumber))
		checkStar(t, counter(40, letters, isAnyNumber))
		checkStar(t, counter(40, letters, func(q int) bool { return q == 39 }))
	}
	for n := 1; n <= 38; n++ {
		checkThatStarIs(t, wordsOfExactly(n), counter(n, "abc", isZeroNumber))
	}
	// The greatest length that is not a sum of these is 38, so that there are 40 states.
	for _, lengths := range [][]int{{5, 12, 31}, {4, 21, 23}, {5, 17, 26}} {
		d := wordsOfLengths(lengths...)
		if outcome := checkStar(t, d); outcome != fewElements && outcome != fewStates {
			t.Errorf("StarDfa of words with lengths %v has %s", lengths, outcome)
		}
		if got, ok := impl.StarDfa(d); !ok || len(got.Accept) != 40 {
			t.Errorf("StarDfa of words with lengths %v has %d states, %v", lengths, len(got.Accept), ok)
		}
	}
	// It is 39 or 40, so that there are 41 or 42 states.
	for _, lengths := range [][]int{{5, 11}, {4, 6, 37}, {7, 9, 29}, {6, 13, 23}} {
		d := wordsOfLengths(lengths...)
		if outcome := checkStar(t, d); outcome != tooManyStates {
			t.Errorf("StarDfa of words with lengths %v has %s", lengths, outcome)
		}
		checkNoStar(t, "words with too large sums of lengths", d)
	}
}

func TestConcatDfaAndStarDfaOfInvalidAutomata(t *testing.T) {
	valid := validAutomata()
	for _, text := range []string{noWord, everyWord, emptyWord} {
		valid[text] = statesOf(text)
	}
	for name, d := range invalidAutomata() {
		checkNoStar(t, name, d)
		checkNoConcat(t, name+" twice", d, d)
		checkNoConcat(t, name+" and a zero automaton", d, impl.Dfa{})
		for _, other := range valid {
			checkNoConcat(t, name+" on the left", d, other)
			checkNoConcat(t, name+" on the right", other, d)
		}
	}
}

func TestWordsThatCanBeDivided(t *testing.T) {
	list := append(smallAutomata(60), randomAutomata(20)...)
	for _, text := range []string{noWord, everyWord, emptyWord, wordA, emptyOrA, onlyB, oddNumber, endsWithB, notEmpty} {
		list = append(list, statesOf(text))
	}
	found := 0
	for i, a := range list {
		b := list[(i+1)%len(list)]
		if got, ok := impl.ConcatDfa(a, b); ok {
			found++
			checkWords(t, "ConcatDfa", got, languageOf(a, 5).followedBy(languageOf(b, 5), 5))
		}
		if got, ok := impl.StarDfa(a); ok {
			found++
			checkWords(t, "StarDfa", got, languageOf(a, 5).repeated(5))
		}
	}
	if found < len(list) {
		t.Errorf("only %d concatenations and repetitions are found", found)
	}
}

func checkCompiled(t *testing.T, text string, want impl.Dfa) {
	t.Helper()
	if got, ok := impl.CompileRegex(parsed(t, text)); !ok || !reflect.DeepEqual(got, want) {
		t.Errorf("CompileRegex of %s = %v, %v, want %v", text, got, ok, want)
	}
}

func checkNotCompiled(t *testing.T, name string, r impl.Regex) {
	t.Helper()
	if got, ok := impl.CompileRegex(r); ok || !isZeroAutomaton(got) {
		t.Errorf("CompileRegex of %s = %v, %v", name, got, ok)
	}
}

func TestCompileRegexForms(t *testing.T) {
	for text, want := range map[string]string{
		"0": noWord,
		"1": emptyWord,
		"a": wordA,
		"b": "-121 -111 +111",
		"c": "-112 -111 +111",
		".": "-111 +222 -222",

		"(ab)":  "-122 -232 -222 +222",
		"(1b)":  "-121 -111 +111",
		"(b1)":  "-121 -111 +111",
		"(0b)":  noWord,
		"(b0)":  noWord,
		"(*.b)": "-010 +010",
		"(b*.)": "-121 -111 +222",

		"(a|b)":   "-112 +222 -222",
		"(a|0)":   wordA,
		"(1|a)":   emptyOrA,
		"(a|.)":   "-111 +222 -222",
		"(a|!a)":  everyWord,
		"(a&b)":   noWord,
		"(.&c)":   "-112 -111 +111",
		"(a&!a)":  noWord,
		"(*a&*b)": emptyWord,

		"*0":       emptyWord,
		"*1":       emptyWord,
		"*a":       onlyA,
		"*.":       everyWord,
		"**a":      onlyA,
		"*(ab)":    "+122 -202 -222",
		"*(a|1)":   onlyA,
		"*(*a*b)":  "+001 -111",
		"*((ab)a)": "+122 -232 -222 -022",

		"!0":         everyWord,
		"!1":         notEmpty,
		"!a":         "+122 -222 +222",
		"!.":         "+111 -222 +222",
		"!!a":        wordA,
		"!*a":        "-011 +111",
		"!*.":        noWord,
		"*!a":        "+122 -222 +222",
		"*!1":        everyWord,
		"!(!a!b)":    noWord,
		"!(!1!1)":    "+111 +222 -222",
		"(!(*.b)!c)": everyWord,
	} {
		checkCompiled(t, text, statesOf(want))
	}
}

// compiledParts is what the document says of CompileRegex, with the results for the parts.
func compiledParts(r impl.Regex) (impl.Dfa, bool) {
	var parts []impl.Dfa
	for _, arg := range r.Args {
		part, ok := impl.CompileRegex(arg)
		if !ok {
			return impl.Dfa{}, false
		}
		parts = append(parts, part)
	}
	switch r.Kind {
	case impl.RxNone:
		return statesOf(noWord), true
	case impl.RxEmpty:
		return statesOf(emptyWord), true
	case impl.RxLetter:
		return map[string]impl.Dfa{"a": statesOf(wordA), "b": statesOf("-121 -111 +111"), "c": statesOf("-112 -111 +111")}[r.Letter], true
	case impl.RxAny:
		return statesOf("-111 +222 -222"), true
	case impl.RxCat:
		return impl.ConcatDfa(parts[0], parts[1])
	case impl.RxStar:
		return impl.StarDfa(parts[0])
	case impl.RxNot:
		return impl.ComplementDfa(parts[0]), true
	}
	return impl.ProductDfa(parts[0], parts[1], r.Kind)
}

// checkCompile returns whether r is compiled.
func checkCompile(t *testing.T, r impl.Regex) bool {
	t.Helper()
	text := textWithoutLimits(r)
	got, ok := impl.CompileRegex(r)
	want, fine := compiledParts(r)
	if ok != fine || !impl.EqualDfa(got, want) {
		t.Errorf("CompileRegex of %s = %v, %v, want %v, %v", text, got, ok, want, fine)
	}
	if !ok {
		return false
	}
	if !hasRightForm(got) || !isNumberedBreadthFirst(got) || hasEqualStates(got) {
		t.Errorf("CompileRegex of %s is not a minimal automaton: %v", text, got)
		return false
	}
	for _, s := range stringsOver("abc", 5) {
		if impl.AcceptsWord(got, s) != impl.MatchRegex(r, s) {
			t.Errorf("CompileRegex of %s = %v accepts %q: %v", text, got, s, !impl.MatchRegex(r, s))
		}
	}
	return true
}

func TestCompileRegexOfEveryExpression(t *testing.T) {
	for _, e := range expressionsUpTo(4) {
		if !checkCompile(t, e.regex) {
			t.Errorf("CompileRegex of %s fails", e.text)
		}
	}
}

func TestCompileRegexOfLargeExpressions(t *testing.T) {
	withoutTakingLong(t, func() {
		for nodes := 5; nodes <= 16; nodes++ {
			for _, r := range expressionsOfSize(40, nodes, min(6, nodes-2)) {
				if !checkCompile(t, r) {
					t.Errorf("CompileRegex of %s fails", textWithoutLimits(r))
					continue
				}
				d, _ := impl.CompileRegex(r)
				for _, s := range longestWords() {
					if impl.AcceptsWord(d, s) != impl.MatchRegex(r, s) {
						t.Errorf("CompileRegex of %s = %v is wrong for %q", textWithoutLimits(r), d, s)
					}
				}
			}
		}
	})
}

// sameExpressions has for an automaton some expressions of its language.
var sameExpressions = map[string][]string{
	noWord:                {"0", "(0a)", "(a0)", "(0|0)", "(a&b)", "(1&a)", "!!0", "!*.", "(*.0)", "(a&!a)", "!(a|!a)"},
	emptyWord:             {"1", "(11)", "*0", "*1", "**0", "(1|0)", "(*a&*b)", "!!1", "!(.*.)", "!(*..)", "(1&*.)"},
	notEmpty:              {"!1", "(.*.)", "(*..)", "(!0.)", "((*..)*.)", "(((a|b)|c)*.)", "(!1|a)", "(!1&!0)"},
	everyWord:             {"*.", "!0", "!(a&b)", "**.", "(!a|a)", "(!0!0)", "*!1", "(*.*.)", "*(a|(b|c))", "(1|(.*.))", "*(*a*(b|c))", "*(*a(*b*c))", "*((*.b)|.)"},
	wordA:                 {"a", "(1a)", "(a1)", "(a|0)", "(a|a)", "(a&.)", "(.&!(b|c))", "!!a", "(*a&.)"},
	onlyA:                 {"*a", "**a", "(1|*a)", "(1|(a*a))", "(1|(*aa))", "(*a*a)", "*(1|a)", "*(a|(aa))", "!(*.((b|c)*.))", "!(!0((b|c)!0))", "*(a*a)"},
	"-111 +222 -222":      {".", "(a|(b|c))", "((a|b)|c)", "(.|a)", "!(1|(.!1))", "(.&!0)", "(1.)"},
	"-112 +222 -222":      {"(a|b)", "(b|a)", "(.&!c)", "!(!a&!b)", "((a|b)&.)"},
	"+112 -222 +222":      {"!(a|b)", "(!a&!b)", "(!b&!a)"},
	"+122 -222 +222":      {"!a", "!(a&*a)", "(!a|!*a)", "!!!a"},
	"-122 -232 -222 +222": {"(ab)", "((1a)b)", "(a(b1))", "((..)&(ab))", "!!(ab)", "((*ab)&((a*b)&(..)))"},
	"+122 -202 -222":      {"*(ab)", "(1|(a(*(ba)b)))", "(1|((ab)*(ab)))", "**(ab)", "*((ab)|1)", "*((ab)|((ab)(ab)))"},
	"+122 -022 -222":      {"*(aa)", "**(aa)", "(*(aa)*(aa))", "(1|((aa)*(aa)))", "*((aa)|((aa)(aa)))", "(*a&*(..))", "*(*(aa)*(aa))"},
	"+001 -111":           {"*(a|b)", "(*(*ab)*a)", "(*a*(b*a))", "*(*a*b)", "*(*a|*b)", "!(*.(c*.))"},
	"-010 +010":           {"(*.b)", "(!0b)", "!(1|(*.(a|c)))", "((*.b)|b)", "(*.(*bb))"},
}

func TestCompileRegexOfOneLanguage(t *testing.T) {
	for text, list := range sameExpressions {
		for _, r := range list {
			checkCompiled(t, r, statesOf(text))
		}
	}
}

func TestCompileRegexOfExpressionsThatMatchAlike(t *testing.T) {
	words := stringsOver("abc", 5)
	seen := map[string]impl.Dfa{}
	for _, e := range expressionsUpTo(4) {
		var matches []byte
		for _, s := range words {
			if impl.MatchRegex(e.regex, s) {
				matches = append(matches, s+" "...)
			}
		}
		d, _ := impl.CompileRegex(e.regex)
		other, known := seen[string(matches)]
		if !known {
			seen[string(matches)] = d
		} else if !reflect.DeepEqual(d, other) {
			t.Errorf("CompileRegex of %s = %v, but another expression of the language gives %v", e.text, d, other)
		}
	}
}

func TestCompileRegexOfOtherFormsOfLargeExpressions(t *testing.T) {
	none, empty := leafOf(impl.RxNone), leafOf(impl.RxEmpty)
	every := nodeOf(impl.RxNot, none)
	for nodes := 5; nodes <= 13; nodes++ {
		for _, r := range expressionsOfSize(20, nodes, min(4, nodes-2)) {
			want, ok := impl.CompileRegex(r)
			for _, other := range []impl.Regex{
				nodeOf(impl.RxNot, nodeOf(impl.RxNot, r)), nodeOf(impl.RxCat, empty, r), nodeOf(impl.RxCat, r, empty),
				nodeOf(impl.RxOr, none, r), nodeOf(impl.RxOr, r, none), nodeOf(impl.RxAnd, every, r), nodeOf(impl.RxAnd, r, every),
			} {
				if got, fine := impl.CompileRegex(other); fine != ok || !reflect.DeepEqual(got, want) {
					t.Errorf("CompileRegex of %s = %v, %v, want %v, %v", textWithoutLimits(other), got, fine, want, ok)
				}
			}
		}
	}
}

func TestCompileRegexLimits(t *testing.T) {
	for depth := 1; depth <= 8; depth++ {
		for nodes := depth; nodes <= 1<<depth-1 && nodes <= 40; nodes++ {
			for _, wide := range []bool{false, true} {
				for _, second := range []bool{false, true} {
					r := expressionOf(nodes, depth, wide, second)
					if nodes > 16 || depth > 6 {
						checkNotCompiled(t, textWithoutLimits(r), r)
					} else if !checkCompile(t, r) {
						t.Errorf("CompileRegex of %s fails", textWithoutLimits(r))
					}
				}
			}
		}
	}
	for _, e := range expressionsUpTo(1) {
		for n := range 5 {
			checkCompile(t, starsAround(n+1, e.regex))
			checkNotCompiled(t, "an expression that is too deep", starsAround(n+6, e.regex))
		}
	}
	checkCompiled(t, "*(((a|b)|(a|b))|((a|b)|(a|b)))", statesOf("+001 -111"))
	checkNotCompiled(t, "17 nodes", starsAround(2, doubled(3, letterOf("a"))))
}

func TestCompileRegexOfInvalidExpressions(t *testing.T) {
	a, none := letterOf("a"), leafOf(impl.RxNone)
	every := nodeOf(impl.RxNot, none)
	for name, r := range invalidNodes() {
		checkNotCompiled(t, name, r)
		for _, other := range []impl.Regex{
			nodeOf(impl.RxStar, r), nodeOf(impl.RxNot, r), nodeOf(impl.RxCat, none, r), nodeOf(impl.RxCat, r, none), nodeOf(impl.RxCat, a, r),
			nodeOf(impl.RxOr, every, r), nodeOf(impl.RxOr, r, every), nodeOf(impl.RxAnd, none, r), nodeOf(impl.RxAnd, r, none),
			starsAround(5, r), nodeOf(impl.RxOr, every, nodeOf(impl.RxStar, nodeOf(impl.RxAnd, a, r))),
		} {
			checkNotCompiled(t, name+" inside", other)
		}
	}
	withoutTakingLong(t, func() {
		for _, r := range []impl.Regex{starsAround(1000000, a), doubled(64, a), ringOf(impl.RxStar), ringOf(impl.RxNot, impl.RxStar)} {
			checkNotCompiled(t, "a very large expression", r)
			checkNotCompiled(t, "an expression with a very large part", nodeOf(impl.RxOr, every, r))
			checkNotCompiled(t, "an expression with a very large part", nodeOf(impl.RxCat, r, none))
		}
	})
}

// partsCompiled returns the automata of the parts, all of which must be found.
func partsCompiled(t *testing.T, r impl.Regex) []impl.Dfa {
	t.Helper()
	var parts []impl.Dfa
	for _, arg := range r.Args {
		if !checkCompile(t, arg) {
			t.Fatalf("CompileRegex of %s fails", textWithoutLimits(arg))
		}
		part, _ := impl.CompileRegex(arg)
		parts = append(parts, part)
	}
	return parts
}

func TestCompileRegexOfExpressionsThatFail(t *testing.T) {
	for text, want := range map[string]string{
		"((*.(a.))((..)(..)))":     tooManyStates,
		"(*.*(((1|a)(..))(..)))":   tooManyElements,
		"*((.*b)*((..)(..)))":      tooManyElements,
		"**((*b.)(.(..)))":         tooManyElements,
		"*((!.(b.))(.(..)))":       tooManyElements,
		"*(((..)(..))((.a)*b))":    tooManyStates,
		"(!*a&*(((..)|a)(.(.a))))": "",
		"(*(.a)|(*(*ab)(.(..))))":  "",
	} {
		r := parsed(t, text)
		parts := partsCompiled(t, r)
		checkNotCompiled(t, text, r)
		switch r.Kind {
		case impl.RxCat:
			if got := checkConcat(t, parts[0], parts[1]); got != want {
				t.Errorf("the concatenation of %s has %s", text, got)
			}
		case impl.RxStar:
			if got := checkStar(t, parts[0]); got != want {
				t.Errorf("the repetition of %s has %s", text, got)
			}
		default:
			checkNoProduct(t, text, parts[0], parts[1], r.Kind)
		}
	}
}

func TestCompileRegexOfPartsThatFail(t *testing.T) {
	for failing, list := range map[string][]string{
		"((*.(a.))((..)(..)))": {
			"*F", "!F", "**F", "!!F", "*!F", "!*F", "(Fa)", "(aF)", "(F1)", "(1F)", "(F0)", "(0F)",
			"(F|a)", "(a|F)", "(F|0)", "(0|F)", "(F&a)", "(a&F)", "(F&0)", "(0&F)",
		},
		"*((!.(b.))(.(..)))": {
			"*F", "!F", "(F!0)", "(!0F)", "(F0)", "(0F)", "(F|!0)", "(!0|F)", "(F|*.)", "(*.|F)", "(F&!0)", "(!0&F)", "(F&0)", "(0&F)",
		},
	} {
		checkNotCompiled(t, failing, parsed(t, failing))
		for _, outer := range list {
			checkCompile(t, parsed(t, strings.ReplaceAll(outer, "F", "a")))
			text := strings.ReplaceAll(outer, "F", failing)
			checkNotCompiled(t, text, parsed(t, text))
		}
	}
}

// lineOf accepts s alone; it has a state for each letter, and the last one is for all other words.
func lineOf(s string) impl.Dfa {
	other := len(s) + 1
	d := impl.Dfa{Accept: make([]bool, other+1)}
	d.Accept[len(s)] = true
	for range d.Accept {
		d.Next = append(d.Next, slices.Repeat([]int{other}, 3))
	}
	for i := range s {
		d.Next[i][letterNumbers[s[i]]] = i + 1
	}
	return d
}

func checkWordDfa(t *testing.T, s string) {
	t.Helper()
	got, ok := impl.WordDfa(s)
	if !ok || len(got.Accept) != len(s)+2 {
		t.Errorf("WordDfa(%q) = %v, %v", s, got, ok)
		return
	}
	line := lineOf(s)
	checkMinimal(t, "WordDfa", got, line, line, isFirst)
	if !impl.AcceptsWord(got, s) {
		t.Errorf("WordDfa(%q) does not accept its word", s)
	}
}

func TestWordDfa(t *testing.T) {
	for s, want := range map[string]string{
		"":    emptyWord,
		"a":   wordA,
		"b":   "-121 -111 +111",
		"c":   "-112 -111 +111",
		"aa":  "-122 -322 -222 +222",
		"ab":  "-122 -232 -222 +222",
		"ac":  "-122 -223 -222 +222",
		"ba":  "-121 -111 -311 +111",
		"cb":  "-112 -111 -131 +111",
		"abc": "-122 -232 -222 -224 +222",
	} {
		if got, ok := impl.WordDfa(s); !ok || !reflect.DeepEqual(got, statesOf(want)) {
			t.Errorf("WordDfa(%q) = %v, %v, want %s", s, got, ok, want)
		}
	}
}

func TestWordDfaOfEveryShortWord(t *testing.T) {
	for _, s := range stringsOver("abc", 5) {
		checkWordDfa(t, s)
		got, _ := impl.WordDfa(s)
		checkWords(t, "WordDfa", got, language{s: true})
	}
}

func TestWordDfaLengths(t *testing.T) {
	for _, s := range longestWords() {
		for n := range 31 {
			checkWordDfa(t, s[:n])
			checkWordDfa(t, s[n:])
		}
		got, _ := impl.WordDfa(s)
		for _, other := range append(longestWords(), s[1:], s[:29], "", "a") {
			if impl.AcceptsWord(got, other) != (other == s) {
				t.Errorf("WordDfa(%q) accepts %q: %v", s, other, other != s)
			}
		}
	}
}

func checkNoWordDfa(t *testing.T, s string) {
	t.Helper()
	if got, ok := impl.WordDfa(s); ok || !isZeroAutomaton(got) {
		t.Errorf("WordDfa(%.40q) = %v, %v", s, got, ok)
	}
}

func TestWordDfaOfStringsThatAreNoWords(t *testing.T) {
	for _, s := range notWords {
		checkNoWordDfa(t, s)
	}
	for _, s := range longestWords() {
		for _, letter := range []string{"a", "b", "c", "d"} {
			checkNoWordDfa(t, s+letter)
			checkNoWordDfa(t, letter+s)
		}
		for i := range s {
			checkNoWordDfa(t, s[:i]+"d"+s[i+1:])
		}
	}
	for i := range 256 {
		if _, isLetter := letterNumbers[byte(i)]; !isLetter {
			other := string([]byte{byte(i)})
			for _, s := range []string{other, other + "a", "a" + other, "b" + other + "c"} {
				checkNoWordDfa(t, s)
			}
		}
	}
}

func TestCompiledAutomataAreNewMemory(t *testing.T) {
	places, count := map[any]bool{}, 0
	add := func(d impl.Dfa, ok bool) {
		if !ok {
			t.Error("an automaton is not found")
		}
		count += memoryOf(d, places)
	}
	for range 2 {
		for _, e := range expressionsUpTo(3) {
			add(impl.CompileRegex(e.regex))
		}
		for _, s := range append(stringsOver("abc", 2), longestWords()...) {
			add(impl.WordDfa(s))
		}
	}
	if len(places) != count {
		t.Error("results share memory with each other or with themselves")
	}
}

func TestCompileRegexKeepsItsArgument(t *testing.T) {
	for kind, parts := range partsOfKind {
		if parts == 0 {
			continue
		}
		withUnused := func() impl.Regex {
			star := []impl.Regex{letterOf("a"), {Kind: 77, Letter: "unused"}, {Kind: 78}}
			all := []impl.Regex{{Kind: impl.RxStar, Args: star[:1]}, letterOf("b"), {Kind: 79, Letter: "unused"}, {Kind: 80}}
			return impl.Regex{Kind: kind, Args: all[:parts]}
		}
		r, want := withUnused(), withUnused()
		if _, ok := impl.CompileRegex(r); !ok {
			t.Errorf("CompileRegex of %v fails", r)
		}
		if !reflect.DeepEqual(r.Args[:4], want.Args[:4]) || !reflect.DeepEqual(r.Args[0].Args[:3], want.Args[0].Args[:3]) {
			t.Errorf("CompileRegex changes its argument to %v", r)
		}
	}
}

func TestNilAndEmptyArgsCompileAlike(t *testing.T) {
	for _, e := range expressionsUpTo(3) {
		got, ok := impl.CompileRegex(copyOf(e.regex))
		if want, fine := impl.CompileRegex(e.regex); ok != fine || !reflect.DeepEqual(got, want) {
			t.Errorf("CompileRegex of %s differs with an empty slice of Args", e.text)
		}
	}
	for _, kind := range []int{impl.RxCat, impl.RxOr, impl.RxAnd, impl.RxStar, impl.RxNot, 0, 10} {
		checkNotCompiled(t, "an empty slice of Args", impl.Regex{Kind: kind, Args: []impl.Regex{}})
	}
}
