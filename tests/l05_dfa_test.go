package tests

import (
	"fmt"
	"math"
	"math/rand/v2"
	"reflect"
	"slices"
	"strings"
	"testing"

	"loop.example/g00582/impl"
)

// statesOf reads an automaton of at most ten states: of each, + or - for accepting or not, and the states after a, b and c.
func statesOf(text string) impl.Dfa {
	var d impl.Dfa
	for _, state := range strings.Fields(text) {
		d.Accept = append(d.Accept, state[0] == '+')
		d.Next = append(d.Next, []int{int(state[1] - '0'), int(state[2] - '0'), int(state[3] - '0')})
	}
	return d
}

// counter counts the given letters modulo n.
func counter(n int, letters string, accepts func(count int) bool) impl.Dfa {
	var d impl.Dfa
	for q := range n {
		next := []int{q, q, q}
		for i := range letters {
			next[letterNumbers[letters[i]]] = (q + 1) % n
		}
		d.Accept = append(d.Accept, accepts(q))
		d.Next = append(d.Next, next)
	}
	return d
}

func isZeroNumber(count int) bool { return count == 0 }

func isEvenNumber(count int) bool { return count%2 == 0 }

func isAnyNumber(int) bool { return true }

// wordsOfExactly accepts the words of n letters; it has n+2 states.
func wordsOfExactly(n int) impl.Dfa {
	var d impl.Dfa
	for q := range n + 2 {
		d.Accept = append(d.Accept, q == n)
		d.Next = append(d.Next, slices.Repeat([]int{min(q+1, n+1)}, 3))
	}
	return d
}

func randomAutomaton(random *rand.Rand, states int) impl.Dfa {
	var d impl.Dfa
	for range states {
		d.Accept = append(d.Accept, random.IntN(2) == 0)
		d.Next = append(d.Next, []int{random.IntN(states), random.IntN(states), random.IntN(states)})
	}
	return d
}

// withCopies returns an automaton of the same language, in which each state is one of the copies of a state of d.
func withCopies(random *rand.Rand, d impl.Dfa, states int) impl.Dfa {
	of := make([]int, states)
	copies := map[int][]int{}
	for q := range of {
		of[q] = q
		if q >= len(d.Accept) {
			of[q] = random.IntN(len(d.Accept))
		}
		copies[of[q]] = append(copies[of[q]], q)
	}
	var all impl.Dfa
	for _, p := range of {
		var next []int
		for _, after := range d.Next[p] {
			next = append(next, copies[after][random.IntN(len(copies[after]))])
		}
		all.Accept = append(all.Accept, d.Accept[p])
		all.Next = append(all.Next, next)
	}
	return all
}

// randomAutomata returns automata of 1 to 40 states, always the same ones: small and large ones, with and without copies.
func randomAutomata(n int) []impl.Dfa {
	random := rand.New(rand.NewPCG(5, uint64(n)))
	var list []impl.Dfa
	for i := range n {
		switch i % 4 {
		case 0:
			list = append(list, randomAutomaton(random, 1+random.IntN(6)))
		case 1:
			list = append(list, randomAutomaton(random, 1+random.IntN(40)))
		default:
			small := randomAutomaton(random, 1+random.IntN(8))
			list = append(list, withCopies(random, small, len(small.Accept)+random.IntN(33)))
		}
	}
	return list
}

// automataOf returns all automata with the number of states.
func automataOf(states int) []impl.Dfa {
	var rows [][]int
	for a := range states {
		for b := range states {
			for c := range states {
				rows = append(rows, []int{a, b, c})
			}
		}
	}
	list := []impl.Dfa{{}}
	for range states {
		var longer []impl.Dfa
		for _, d := range list {
			for _, row := range rows {
				for _, accepts := range []bool{false, true} {
					longer = append(longer, impl.Dfa{
						Accept: append(slices.Clone(d.Accept), accepts),
						Next:   append(slices.Clone(d.Next), slices.Clone(row)),
					})
				}
			}
		}
		list = longer
	}
	return list
}

func withAccept(d impl.Dfa, accept ...bool) impl.Dfa { return impl.Dfa{Accept: accept, Next: d.Next} }

func withNext(d impl.Dfa, next ...[]int) impl.Dfa { return impl.Dfa{Accept: d.Accept, Next: next} }

func invalidAutomata() map[string]impl.Dfa {
	one, two, most := statesOf("+000"), statesOf("+100 -011"), counter(40, "a", isAnyNumber)
	list := map[string]impl.Dfa{
		"nil slices":               {},
		"empty slices":             {Accept: []bool{}, Next: [][]int{}},
		"no Next":                  {Accept: []bool{true}},
		"an empty Next":            {Accept: []bool{true}, Next: [][]int{}},
		"no Accept":                {Next: [][]int{{0, 0, 0}}},
		"an empty Accept":          {Accept: []bool{}, Next: [][]int{{0, 0, 0}}},
		"a row that is nil":        withNext(one, nil),
		"a row that is empty":      withNext(one, []int{}),
		"a row of one state":       withNext(one, []int{0}),
		"a row of two states":      withNext(one, []int{0, 0}),
		"a row of four states":     withNext(one, []int{0, 0, 0, 0}),
		"a second row of two":      withNext(two, []int{1, 0, 0}, []int{0, 1}),
		"a second row of four":     withNext(two, []int{1, 0, 0}, []int{0, 1, 1, 1}),
		"a second row that is nil": withNext(two, []int{1, 0, 0}, nil),
		"one row too few":          withNext(two, []int{0, 0, 0}),
		"one row too many":         withNext(two, []int{1, 0, 0}, []int{0, 1, 1}, []int{0, 0, 0}),
		"one state too few":        withAccept(two, true),
		"one state too many":       withAccept(two, true, false, true),
		"41 states":                counter(41, "a", isAnyNumber),
		"41 states, 40 rows":       {Accept: make([]bool, 41), Next: most.Next},
		"40 states, 41 rows":       {Accept: most.Accept, Next: counter(41, "", isAnyNumber).Next},
		"42 states":                counter(42, "b", isAnyNumber),
		"100000 states":            counter(100000, "abc", isAnyNumber),
		"100000 rows":              {Accept: []bool{true}, Next: slices.Repeat([][]int{{0, 0, 0}}, 100000)},
		"a row of 100000 states":   withNext(one, make([]int, 100000)),
	}
	for name, q := range map[string]int{
		"-1": -1, "-2": -2, "the number of states": 2, "one more": 3, "40": 40, "256": 256, "2^32": 1 << 32, "the least number": math.MinInt, "the greatest number": math.MaxInt,
	} {
		list["state "+name+" after a"] = withNext(two, []int{q, 0, 0}, []int{0, 1, 1})
		list["state "+name+" after b"] = withNext(two, []int{1, q, 0}, []int{0, 1, 1})
		list["state "+name+" after c"] = withNext(two, []int{1, 0, q}, []int{0, 1, 1})
		list["state "+name+" in the last row"] = withNext(two, []int{1, 0, 0}, []int{0, 1, q})
		list["state "+name+" in a row that is not reached"] = withNext(two, []int{0, 0, 0}, []int{q, 1, 1})
	}
	return list
}

func validAutomata() map[string]impl.Dfa {
	return map[string]impl.Dfa{
		"one state":               statesOf("-000"),
		"one accepting state":     statesOf("+000"),
		"two states":              statesOf("+100 -011"),
		"39 states":               counter(39, "c", isZeroNumber),
		"40 states":               counter(40, "a", isZeroNumber),
		"40 states in line":       wordsOfExactly(38),
		"40 states, one reached":  counter(40, "", isZeroNumber),
		"unused capacity of rows": withNext(statesOf("+000"), make([]int, 3, 10)),
	}
}

func stateAfter(d impl.Dfa, q int, s string) int {
	for i := range s {
		q = d.Next[q][letterNumbers[s[i]]]
	}
	return q
}

func isZeroAutomaton(d impl.Dfa) bool { return len(d.Accept) == 0 && len(d.Next) == 0 }

// hasRightForm is what the document calls valid.
func hasRightForm(d impl.Dfa) bool {
	states := len(d.Accept)
	if states == 0 || states > 40 || len(d.Next) != states {
		return false
	}
	for _, row := range d.Next {
		if len(row) != 3 {
			return false
		}
		for _, q := range row {
			if q < 0 || q >= states {
				return false
			}
		}
	}
	return true
}

// isNumberedBreadthFirst tells also whether all states are reached.
func isNumberedBreadthFirst(d impl.Dfa) bool {
	seen := 1
	for q, row := range d.Next {
		if q >= seen {
			return false
		}
		for _, after := range row {
			if after > seen {
				return false
			}
			if after == seen {
				seen++
			}
		}
	}
	return seen == len(d.Next)
}

// hasEqualStates looks for two states from which the same words are accepted: no letters lead to a pair of which only one is.
func hasEqualStates(d impl.Dfa) bool {
	n := len(d.Accept)
	differ := make([]bool, n*n)
	for changed := true; changed; {
		changed = false
		for k := range differ {
			p, q := k/n, k%n
			now := d.Accept[p] != d.Accept[q]
			for letter := range 3 {
				now = now || differ[d.Next[p][letter]*n+d.Next[q][letter]]
			}
			if now && !differ[k] {
				differ[k], changed = true, true
			}
		}
	}
	for p := range n {
		for q := range p {
			if !differ[p*n+q] {
				return true
			}
		}
	}
	return false
}

type acceptance func(a bool, b bool) bool

// wrongWord follows all words in three automata at once, and returns one for which got does not accept what want says of a and b.
func wrongWord(got impl.Dfa, a impl.Dfa, b impl.Dfa, want acceptance) (string, bool) {
	words := map[[3]int]string{{}: ""}
	open := [][3]int{{}}
	for len(open) > 0 {
		now := open[0]
		open = open[1:]
		if got.Accept[now[0]] != want(a.Accept[now[1]], b.Accept[now[2]]) {
			return words[now], true
		}
		for letter := range 3 {
			next := [3]int{got.Next[now[0]][letter], a.Next[now[1]][letter], b.Next[now[2]][letter]}
			if _, seen := words[next]; !seen {
				words[next] = words[now] + "abc"[letter:letter+1]
				open = append(open, next)
			}
		}
	}
	return "", false
}

// checkMinimal checks that got is the minimal automaton for the words of which want is true, numbered as the document says.
func checkMinimal(t *testing.T, name string, got impl.Dfa, a impl.Dfa, b impl.Dfa, want acceptance) {
	t.Helper()
	if !hasRightForm(got) {
		t.Errorf("%s of %v and %v is not valid: %v", name, a, b, got)
		return
	}
	if word, wrong := wrongWord(got, a, b, want); wrong {
		t.Errorf("%s of %v and %v is wrong for %q: %v", name, a, b, word, got)
	}
	if !isNumberedBreadthFirst(got) {
		t.Errorf("%s of %v and %v is not numbered breadth first: %v", name, a, b, got)
	}
	if hasEqualStates(got) {
		t.Errorf("%s of %v and %v is not minimal: %v", name, a, b, got)
	}
}

func isFirst(a bool, _ bool) bool { return a }

func isNotFirst(a bool, _ bool) bool { return !a }

func isEither(a bool, b bool) bool { return a || b }

func isBoth(a bool, b bool) bool { return a && b }

func checkMinimize(t *testing.T, d impl.Dfa) {
	t.Helper()
	checkMinimal(t, "MinimizeDfa", impl.MinimizeDfa(d), d, d, isFirst)
	checkMinimal(t, "ComplementDfa", impl.ComplementDfa(d), d, d, isNotFirst)
}

func checkProduct(t *testing.T, a impl.Dfa, b impl.Dfa) {
	t.Helper()
	either, ok := impl.ProductDfa(a, b, impl.RxOr)
	if !ok {
		t.Errorf("ProductDfa of %v and %v for RxOr fails", a, b)
	} else {
		checkMinimal(t, "ProductDfa for RxOr", either, a, b, isEither)
	}
	both, ok := impl.ProductDfa(a, b, impl.RxAnd)
	if !ok {
		t.Errorf("ProductDfa of %v and %v for RxAnd fails", a, b)
	} else {
		checkMinimal(t, "ProductDfa for RxAnd", both, a, b, isBoth)
	}
}

func checkNoProduct(t *testing.T, name string, a impl.Dfa, b impl.Dfa, kind int) {
	t.Helper()
	if got, ok := impl.ProductDfa(a, b, kind); ok || !isZeroAutomaton(got) {
		t.Errorf("ProductDfa of %s for kind %d = %v, %v", name, kind, got, ok)
	}
}

func TestMaxStates(t *testing.T) {
	if impl.MaxStates != 40 {
		t.Errorf("MaxStates = %d", impl.MaxStates)
	}
}

func TestIsValidDfa(t *testing.T) {
	for name, d := range validAutomata() {
		if !impl.IsValidDfa(d) {
			t.Errorf("an automaton with %s is not valid", name)
		}
	}
	for name, d := range invalidAutomata() {
		if impl.IsValidDfa(d) {
			t.Errorf("an automaton with %s is valid", name)
		}
	}
	for n := range 100 {
		if got, want := impl.IsValidDfa(counter(n, "ab", isZeroNumber)), n >= 1 && n <= 40; got != want {
			t.Errorf("IsValidDfa for %d states = %v", n, got)
		}
	}
}

func TestIsValidDfaOtherStateAtEveryPlace(t *testing.T) {
	for _, n := range []int{1, 2, 40} {
		for q := range n {
			for letter := range 3 {
				for after, want := range map[int]bool{-1: false, 0: true, n - 1: true, n: false, n + 1: false, math.MinInt: false, math.MaxInt: false} {
					d := counter(n, "a", isZeroNumber)
					d.Next[q][letter] = after
					if impl.IsValidDfa(d) != want {
						t.Errorf("IsValidDfa with %d of %d states after state %d = %v", after, n, q, !want)
					}
				}
			}
		}
	}
}

func checkRun(t *testing.T, d impl.Dfa, from int, s string, want int, wantOk bool) {
	t.Helper()
	if q, ok := impl.RunDfa(d, from, s); q != want || ok != wantOk {
		t.Errorf("RunDfa(%v, %d, %.40q) = %d, %v, want %d, %v", d, from, s, q, ok, want, wantOk)
	}
}

func TestRunDfa(t *testing.T) {
	d := statesOf("-120 +201 -012")
	for _, c := range []struct {
		from int
		s    string
		to   int
	}{
		{0, "", 0}, {1, "", 1}, {2, "", 2},
		{0, "a", 1}, {0, "b", 2}, {0, "c", 0},
		{1, "a", 2}, {1, "b", 0}, {1, "c", 1},
		{2, "a", 0}, {2, "b", 1}, {2, "c", 2},
		{0, "aa", 2}, {0, "aaa", 0}, {0, "ab", 0}, {0, "bb", 1}, {1, "ca", 2}, {2, "bcb", 0}, {0, "cccba", 0},
	} {
		checkRun(t, d, c.from, c.s, c.to, true)
	}
}

func TestRunDfaFromEveryState(t *testing.T) {
	words := append(stringsOver("abc", 5), longestWords()...)
	for _, d := range append(randomAutomata(40), statesOf("+000"), counter(40, "abc", isZeroNumber), wordsOfExactly(38)) {
		for from := range d.Accept {
			for _, s := range words {
				checkRun(t, d, from, s, stateAfter(d, from, s), true)
			}
			for _, s := range longestWords() {
				checkRun(t, d, from, s+"a", 0, false)
				checkRun(t, d, from, "c"+s, 0, false)
			}
			for _, s := range notWords {
				checkRun(t, d, from, s, 0, false)
			}
		}
		for _, from := range []int{-1, -2, len(d.Accept), len(d.Accept) + 1, 41, 1 << 32, math.MinInt, math.MaxInt} {
			for _, s := range append([]string{"", "a", "abc", longestWords()[0]}, notWords...) {
				checkRun(t, d, from, s, 0, false)
			}
		}
	}
}

func TestAcceptsWord(t *testing.T) {
	words := append(stringsOver("abc", 5), longestWords()...)
	for _, d := range append(randomAutomata(60), counter(40, "abc", isEvenNumber), wordsOfExactly(3), wordsOfExactly(30)) {
		for _, s := range words {
			if got, want := impl.AcceptsWord(d, s), d.Accept[stateAfter(d, 0, s)]; got != want {
				t.Errorf("AcceptsWord(%v, %q) = %v", d, s, got)
			}
		}
	}
	all := statesOf("+000")
	for n := range 40 {
		if got, want := impl.AcceptsWord(all, strings.Repeat("b", n)), n <= 30; got != want {
			t.Errorf("AcceptsWord of %d letters = %v", n, got)
		}
	}
	for _, s := range notWords {
		if impl.AcceptsWord(all, s) {
			t.Errorf("AcceptsWord(%.40q)", s)
		}
	}
}

func TestRunningInvalidAutomata(t *testing.T) {
	for name, d := range invalidAutomata() {
		for _, s := range []string{"", "a", "b", "c", "abc", longestWords()[0], "d"} {
			if impl.AcceptsWord(d, s) {
				t.Errorf("AcceptsWord accepts %q with %s", s, name)
			}
			for _, from := range []int{0, 1, -1, 40, math.MaxInt} {
				if q, ok := impl.RunDfa(d, from, s); q != 0 || ok {
					t.Errorf("RunDfa from %d for %q with %s = %d, %v", from, s, name, q, ok)
				}
			}
		}
	}
}

func copyOfAutomaton(d impl.Dfa) impl.Dfa {
	next := make([][]int, 0, len(d.Next))
	for _, row := range d.Next {
		next = append(next, append(make([]int, 0, len(row)), row...))
	}
	return impl.Dfa{Accept: append(make([]bool, 0, len(d.Accept)), d.Accept...), Next: next}
}

func checkEqual(t *testing.T, a impl.Dfa, b impl.Dfa, want bool) {
	t.Helper()
	if impl.EqualDfa(a, b) != want || impl.EqualDfa(b, a) != want {
		t.Errorf("EqualDfa(%.100s, %.100s) is not %v both ways", fmt.Sprint(a), fmt.Sprint(b), want)
	}
}

// differentAutomata are all different from each other, also where two have the same language.
func differentAutomata() []impl.Dfa {
	two := statesOf("+100 -011")
	return []impl.Dfa{
		{},
		{Accept: []bool{false}},
		{Accept: []bool{true}},
		{Next: [][]int{{}}},
		{Next: [][]int{{}, {}}},
		{Next: [][]int{{0}}},
		{Next: [][]int{{0, 0, 0}}},
		{Next: [][]int{{0, 0, 0, 0}}},
		statesOf("+000"), statesOf("-000"), statesOf("+000 +000"), statesOf("+111 +000"), statesOf("-000 +111"),
		two,
		withAccept(two, false, false), withAccept(two, true, true), withAccept(two, false, true),
		withAccept(two, true), withAccept(two, true, false, false), withAccept(two),
		statesOf("+000 -011"), statesOf("+110 -011"), statesOf("+101 -011"),
		statesOf("+100 -111"), statesOf("+100 -001"), statesOf("+100 -010"),
		withNext(two, []int{1, 0, 0}), withNext(two, []int{0, 1, 1}, []int{1, 0, 0}), withNext(two),
		withNext(two, []int{1, 0, 0}, []int{0, 1, 1}, nil), withNext(two, []int{1, 0, 0}, nil), withNext(two, []int{1, 0, 0}, []int{0, 1}),
		withNext(two, []int{1, 0, 0}, []int{0, 1, 1, 0}), withNext(two, []int{1, 0, 0}, []int{0, 1, -1}), withNext(two, []int{1, 0, 0}, []int{0, 1, 2}),
		withNext(two, []int{1, 0, 0}, []int{0, 1, math.MaxInt}), withNext(two, []int{math.MinInt, 0, 0}, []int{0, 1, 1}),
		counter(39, "a", isZeroNumber), counter(40, "a", isZeroNumber), counter(40, "b", isZeroNumber), counter(40, "a", isEvenNumber),
		counter(41, "a", isZeroNumber), counter(41, "a", isEvenNumber),
	}
}

func TestEqualDfa(t *testing.T) {
	list := differentAutomata()
	for i, a := range list {
		for j, b := range list {
			checkEqual(t, a, copyOfAutomaton(b), i == j)
		}
	}
	for _, d := range invalidAutomata() {
		checkEqual(t, d, copyOfAutomaton(d), true)
		checkEqual(t, d, statesOf("+000"), false)
	}
	empty := impl.Dfa{Accept: []bool{}, Next: [][]int{}}
	checkEqual(t, impl.Dfa{}, empty, true)
	checkEqual(t, impl.Dfa{Next: [][]int{nil, {0}}}, impl.Dfa{Next: [][]int{{}, {0}}}, true)
}

func TestEqualDfaOneFieldOfManyStates(t *testing.T) {
	d := wordsOfExactly(38)
	for q := range 40 {
		other := copyOfAutomaton(d)
		other.Accept[q] = !other.Accept[q]
		checkEqual(t, d, other, false)
		for letter := range 3 {
			other = copyOfAutomaton(d)
			other.Next[q][letter]--
			checkEqual(t, d, other, false)
		}
	}
}

func checkMinimum(t *testing.T, d impl.Dfa, want impl.Dfa) {
	t.Helper()
	if got := impl.MinimizeDfa(d); !reflect.DeepEqual(got, want) {
		t.Errorf("MinimizeDfa(%v) = %v, want %v", d, got, want)
	}
	checkMinimize(t, d)
}

func TestMinimizeDfa(t *testing.T) {
	for text, want := range map[string]string{
		"+000": "+000",
		"-000": "-000",
		// All or none of the states are accepting.
		"+111 +000":           "+000",
		"-111 -000":           "-000",
		"+123 +123 +031 +111": "+000",
		"-123 -123 -031 -111": "-000",
		// These are minimal already.
		"-100 +100":           "-100 +100",
		"-100 +111":           "-100 +111",
		"+100 -011":           "+100 -011",
		"-100 -200 -300 +300": "-100 -200 -300 +300",
		"+122 -233 +300 -011": "+100 -011",
		"-120 +120 +120":      "-110 +110",
		// Words of one letter, with more than one state for them or for those that are too long.
		"-123 +444 +444 +444 -444": "-111 +222 -222",
		"-123 +444 +444 -444 -444": "-112 +222 -222",
		"-123 +444 -444 +444 -444": "-121 +222 -222",
		"-123 -444 +444 +444 -444": "-122 -111 +111",
		"-112 +333 +444 -333 -444": "-111 +222 -222",
		"-112 +333 +444 -333 +444": "-112 +333 +222 -333",
	} {
		checkMinimum(t, statesOf(text), statesOf(want))
	}
}

func TestMinimizeDfaStatesThatAreNotReached(t *testing.T) {
	for text, want := range map[string]string{
		// Only state 0 is reached.
		"+000 -111":           "+000",
		"+000 -000":           "+000",
		"+000 +000 -102":      "+000",
		"-000 +000 +111 +222": "-000",
		"-000 +101 +121 -013": "-000",
		// An unreached state leads into the reached ones, and is equal to none of them.
		"-111 +111 +011":           "-111 +111",
		"-111 +000 -012":           "-111 +000",
		"-111 +000 -222":           "-111 +000",
		"-222 -000 +222":           "-111 +111",
		"+222 -021 -222 +012":      "+111 -111",
		"-333 +013 +210 +300":      "-111 +100",
		"-044 +000 +111 -123 +444": "-011 +111",
		// An unreached state is equal to a reached one.
		"-121 +222 +111 +000":      "-111 +111",
		"-222 +000 +000":           "-111 +000",
		"-333 +333 -222 +333":      "-111 +111",
		"-333 +444 +444 +444 -444": "-111 +222 -222",
		// Only an unreached state is accepting, or is not.
		"-100 -011 +012":      "-000",
		"-202 +120 -020 +111": "-000",
		"+100 +011 -012":      "+000",
		"+202 -120 +020 -111": "+000",
	} {
		checkMinimum(t, statesOf(text), statesOf(want))
	}
	for n := 1; n <= 40; n++ {
		checkMinimum(t, counter(n, "", isZeroNumber), statesOf("+000"))
		checkMinimum(t, counter(n, "", func(q int) bool { return q > 0 }), statesOf("-000"))
	}
}

func TestMinimizeDfaStatesThatDifferAfterManyLetters(t *testing.T) {
	for n := range 39 {
		d := wordsOfExactly(n)
		checkMinimum(t, d, d)
	}
	for n := 1; n <= 40; n++ {
		for _, letters := range []string{"a", "b", "c", "ab", "abc"} {
			for _, d := range []impl.Dfa{counter(n, letters, isZeroNumber), counter(n, letters, func(q int) bool { return q == n-1 })} {
				checkMinimum(t, d, d)
			}
		}
	}
	// There are two lines of 20 states, and only one of them ends with an accepting state.
	var d impl.Dfa
	for q := range 40 {
		end := q/20*20 + 19
		d.Accept = append(d.Accept, q == 19)
		d.Next = append(d.Next, slices.Repeat([]int{min(q+1, end)}, 3))
	}
	d.Next[0] = []int{1, 20, 20}
	if got := impl.MinimizeDfa(d); len(got.Accept) != 21 {
		t.Errorf("MinimizeDfa(%v) has %d states", d, len(got.Accept))
	}
	checkMinimize(t, d)
}

func TestMinimizeDfaCountersWithAPeriod(t *testing.T) {
	for n := 1; n <= 40; n++ {
		for period := 1; period <= n; period++ {
			if n%period == 0 {
				isMultiple := func(q int) bool { return q%period == 0 }
				checkMinimum(t, counter(n, "ac", isMultiple), counter(period, "ac", isMultiple))
			}
		}
	}
}

func TestMinimizeDfaNumbersTheStates(t *testing.T) {
	for text, want := range map[string]string{
		"-213 +111 -233 -100": "-123 -133 +222 -200",
		"-300 +100 -100 -200": "-100 -200 -300 +300",
		"-321 +111 -210 -301": "-123 -103 -230 +333",
		"-311 +222 -111 -000": "-122 -000 +333 -222",
	} {
		checkMinimum(t, statesOf(text), statesOf(want))
	}
}

// withOtherNumbers gives all states but the first one other numbers.
func withOtherNumbers(random *rand.Rand, d impl.Dfa) impl.Dfa {
	numbers := []int{0}
	for _, k := range random.Perm(len(d.Accept) - 1) {
		numbers = append(numbers, k+1)
	}
	other := impl.Dfa{Accept: make([]bool, len(d.Accept)), Next: make([][]int, len(d.Accept))}
	for q, number := range numbers {
		other.Accept[number] = d.Accept[q]
		for _, after := range d.Next[q] {
			other.Next[number] = append(other.Next[number], numbers[after])
		}
	}
	return other
}

func TestMinimizeDfaOfOtherNumbers(t *testing.T) {
	random := rand.New(rand.NewPCG(5, 5))
	for _, d := range randomAutomata(400) {
		least := impl.MinimizeDfa(d)
		checkMinimum(t, least, least)
		checkMinimum(t, withOtherNumbers(random, least), least)
		checkMinimum(t, withOtherNumbers(random, d), least)
		for range 3 {
			states := len(least.Accept) + random.IntN(41-len(least.Accept))
			checkMinimum(t, withOtherNumbers(random, withCopies(random, least, states)), least)
		}
	}
}

func TestMinimizeDfaOfEverySmallAutomaton(t *testing.T) {
	for states := 1; states <= 2; states++ {
		for _, d := range automataOf(states) {
			checkMinimize(t, d)
		}
	}
	for i, d := range automataOf(3) {
		if i%7 == 0 {
			checkMinimize(t, d)
		}
	}
}

func TestMinimizeDfaOfRandomAutomata(t *testing.T) {
	smaller := 0
	for _, d := range randomAutomata(2000) {
		checkMinimize(t, d)
		if n := len(impl.MinimizeDfa(d).Accept); n > 3 && n < len(d.Accept) {
			smaller++
		}
	}
	if smaller < 500 {
		t.Errorf("only %d automata become smaller, but not very small", smaller)
	}
}

func TestMinimizeAndComplementOfInvalidAutomata(t *testing.T) {
	for name, d := range invalidAutomata() {
		if got := impl.MinimizeDfa(d); !isZeroAutomaton(got) {
			t.Errorf("MinimizeDfa with %s = %v", name, got)
		}
		if got := impl.ComplementDfa(d); !isZeroAutomaton(got) {
			t.Errorf("ComplementDfa with %s = %v", name, got)
		}
	}
}

func TestComplementDfa(t *testing.T) {
	for text, want := range map[string]string{
		"+000":                     "-000",
		"-000":                     "+000",
		"+111 +000":                "-000",
		"-111 -000":                "+000",
		"+100 -011":                "-100 +011",
		"-100 +111":                "+100 -111",
		"+122 -233 +300 -011":      "-100 +011",
		"-123 +444 +444 -444 -444": "+112 -222 +222",
		"+000 -111":                "-000",
		"-000 +000 +111 +222":      "+000",
		"-333 +013 +210 +300":      "+111 -100",
		"-100 -011 +012":           "+000",
		"-321 +111 -210 -301":      "+123 +103 +230 -333",
	} {
		d := statesOf(text)
		if got := impl.ComplementDfa(d); !reflect.DeepEqual(got, statesOf(want)) {
			t.Errorf("ComplementDfa(%v) = %v, want %v", d, got, statesOf(want))
		}
	}
}

func TestComplementDfaTwice(t *testing.T) {
	list := append(randomAutomata(400), automataOf(2)...)
	for n := 1; n <= 40; n++ {
		list = append(list, counter(n, "a", isZeroNumber), counter(n, "ab", isEvenNumber), counter(n, "", isAnyNumber))
	}
	for n := range 39 {
		list = append(list, wordsOfExactly(n))
	}
	for _, d := range list {
		if got, want := impl.ComplementDfa(impl.ComplementDfa(d)), impl.MinimizeDfa(d); !reflect.DeepEqual(got, want) {
			t.Errorf("the complement of the complement of %v is %v, want %v", d, got, want)
		}
	}
}

func checkThatProductIs(t *testing.T, a impl.Dfa, b impl.Dfa, kind int, want impl.Dfa) {
	t.Helper()
	if got, ok := impl.ProductDfa(a, b, kind); !ok || !reflect.DeepEqual(got, want) {
		t.Errorf("ProductDfa(%v, %v, %d) = %v, %v, want %v", a, b, kind, got, ok, want)
	}
}

func TestProductDfa(t *testing.T) {
	const evenA, evenB, oddA, all, none = "+100 -011", "+010 -101", "-100 +011", "+000", "-000"
	for _, c := range []struct{ a, b, or, and string }{
		{all, all, all, all},
		{all, none, all, none},
		{none, none, none, none},
		{evenA, all, all, evenA},
		{evenA, none, evenA, none},
		{evenA, evenA, evenA, evenA},
		{evenA, oddA, all, none},
		{evenA, evenB, "+120 +031 +302 -213", "+120 -031 -302 -213"},
		{oddA, evenB, "+120 +031 -302 +213", "-120 +031 -302 -213"},
		// The words a, and b.
		{"-122 +222 -222", "-212 +222 -222", "-112 +222 -222", none},
		// The words that begin with a, and those that end with a.
		{"-122 +111 -222", "-100 +100", "-122 +111 -322 +322", "-122 +133 -222 -133"},
		// States that are not reached, and more states than necessary.
		{"+000 -111", "+111 +000", all, all},
		{"-000 +111", "-111 -000 +222", none, none},
		{"+122 -233 +300 -011", "-000 +100", evenA, none},
		{"+133 -311 +012 +300", all, all, "+122 -211 +200"},
	} {
		for _, order := range [][2]string{{c.a, c.b}, {c.b, c.a}} {
			a, b := statesOf(order[0]), statesOf(order[1])
			checkProduct(t, a, b)
			checkThatProductIs(t, a, b, impl.RxOr, impl.MinimizeDfa(statesOf(c.or)))
			checkThatProductIs(t, a, b, impl.RxAnd, impl.MinimizeDfa(statesOf(c.and)))
		}
	}
}

func TestProductDfaOfOtherKinds(t *testing.T) {
	d, all := statesOf("+100 -011"), statesOf("+000")
	for _, kind := range []int{
		0, impl.RxNone, impl.RxEmpty, impl.RxLetter, impl.RxAny, impl.RxCat, impl.RxStar, impl.RxNot, 10, 11, 13, 14, 15, 256 + 6, 256 + 7,
		-1, -6, -7, 1<<32 + 6, 1<<32 + 7, math.MinInt, math.MinInt + 6, math.MaxInt,
	} {
		checkNoProduct(t, "two automata", d, all, kind)
		checkNoProduct(t, "an automaton twice", d, d, kind)
		checkNoProduct(t, "automata that accept all", all, all, kind)
		checkNoProduct(t, "zero automata", impl.Dfa{}, impl.Dfa{}, kind)
	}
}

func TestProductDfaOfInvalidAutomata(t *testing.T) {
	for name, d := range invalidAutomata() {
		for _, kind := range []int{impl.RxOr, impl.RxAnd, impl.RxNot, 0} {
			checkNoProduct(t, name+" twice", d, d, kind)
			for _, valid := range validAutomata() {
				checkNoProduct(t, name+" on the left", d, valid, kind)
				checkNoProduct(t, name+" on the right", valid, d, kind)
			}
		}
	}
}

// checkProductSize expects a product of the number of states, or none if these are too many.
func checkProductSize(t *testing.T, a impl.Dfa, b impl.Dfa, kind int, states int) {
	t.Helper()
	for _, list := range [][2]impl.Dfa{{a, b}, {b, a}} {
		if states > 40 {
			checkNoProduct(t, "automata with a large product", list[0], list[1], kind)
			continue
		}
		got, ok := impl.ProductDfa(list[0], list[1], kind)
		if !ok || len(got.Accept) != states {
			t.Errorf("ProductDfa of kind %d has %d states, %v, want %d", kind, len(got.Accept), ok, states)
			continue
		}
		want := isEither
		if kind == impl.RxAnd {
			want = isBoth
		}
		checkMinimal(t, "ProductDfa", got, list[0], list[1], want)
	}
}

func TestProductDfaOfExactlyMaxStates(t *testing.T) {
	five, eight := counter(5, "a", isZeroNumber), counter(8, "a", isZeroNumber)
	checkThatProductIs(t, five, eight, impl.RxAnd, counter(40, "a", isZeroNumber))
	checkProductSize(t, five, eight, impl.RxOr, 40)
	checkProductSize(t, five, counter(8, "b", isZeroNumber), impl.RxOr, 40)
	checkProductSize(t, five, counter(8, "b", isZeroNumber), impl.RxAnd, 40)
	most := counter(40, "a", isZeroNumber)
	for _, kind := range []int{impl.RxOr, impl.RxAnd} {
		checkThatProductIs(t, most, most, kind, most)
		checkProductSize(t, most, impl.ComplementDfa(most), kind, 1)
	}
	checkThatProductIs(t, most, statesOf("-000"), impl.RxOr, most)
	checkThatProductIs(t, most, statesOf("+000"), impl.RxAnd, most)
	// The words of n letters, and b: there are n+2 states, and one more for b.
	b := statesOf("-212 +222 -222")
	for n := 30; n <= 38; n++ {
		d := wordsOfExactly(n)
		checkProductSize(t, d, b, impl.RxOr, n+3)
		checkProductSize(t, impl.ComplementDfa(d), impl.ComplementDfa(b), impl.RxAnd, n+3)
	}
}

func TestProductDfaOfMoreThanMaxStates(t *testing.T) {
	withoutTakingLong(t, func() {
		for _, sizes := range [][2]int{{6, 7}, {5, 9}, {39, 2}, {40, 3}, {13, 11}, {39, 38}, {40, 39}} {
			a, b := counter(sizes[0], "a", isZeroNumber), counter(sizes[1], "a", isZeroNumber)
			other := counter(sizes[1], "bc", isZeroNumber)
			for _, kind := range []int{impl.RxOr, impl.RxAnd} {
				checkProductSize(t, a, b, kind, sizes[0]*sizes[1])
				checkProductSize(t, a, other, kind, sizes[0]*sizes[1])
			}
		}
		for _, kind := range []int{impl.RxOr, impl.RxAnd} {
			checkProductSize(t, counter(40, "a", isZeroNumber), counter(40, "b", isZeroNumber), kind, 1600)
			checkProductSize(t, counter(7, "a", isZeroNumber), counter(6, "b", isZeroNumber), kind, 42)
		}
	})
}

func TestProductDfaMuchSmallerThanItsPairs(t *testing.T) {
	isMultiple := func(n int) func(int) bool { return func(q int) bool { return q%n == 0 } }
	withoutTakingLong(t, func() {
		for _, kind := range []int{impl.RxOr, impl.RxAnd} {
			checkProductSize(t, counter(40, "a", isAnyNumber), counter(39, "a", isAnyNumber), kind, 1)
			checkProductSize(t, counter(40, "a", isAnyNumber), counter(40, "b", isAnyNumber), kind, 1)
			checkProductSize(t, counter(40, "a", isEvenNumber), counter(39, "a", isMultiple(3)), kind, 6)
			checkProductSize(t, counter(40, "a", isMultiple(5)), counter(39, "a", isMultiple(3)), kind, 15)
			checkProductSize(t, counter(40, "a", isEvenNumber), counter(40, "b", isEvenNumber), kind, 4)
			checkProductSize(t, counter(40, "a", isMultiple(5)), counter(40, "b", isMultiple(8)), kind, 40)
			checkProductSize(t, counter(40, "ab", isMultiple(8)), counter(40, "bc", isMultiple(4)), kind, 32)
			checkProductSize(t, counter(40, "ab", isMultiple(8)), counter(36, "bc", isMultiple(6)), kind, 48)
		}
		checkProductSize(t, counter(40, "a", isZeroNumber), counter(39, "a", isAnyNumber), impl.RxOr, 1)
		checkProductSize(t, counter(40, "a", isZeroNumber), counter(39, "a", isAnyNumber), impl.RxAnd, 40)
		checkProductSize(t, counter(40, "a", isZeroNumber), counter(39, "a", func(int) bool { return false }), impl.RxAnd, 1)
	})
}

func TestProductDfaOfEverySmallAutomaton(t *testing.T) {
	two := automataOf(2)
	for _, a := range append(automataOf(1), two...) {
		for i, b := range two {
			if i%3 == 0 {
				checkProduct(t, a, b)
				checkProduct(t, b, a)
			}
		}
	}
}

func TestProductDfaOfRandomAutomata(t *testing.T) {
	list := randomAutomata(800)
	results := map[bool]int{}
	for i, a := range list[1:] {
		b := list[i]
		for kind, want := range map[int]acceptance{impl.RxOr: isEither, impl.RxAnd: isBoth} {
			got, ok := impl.ProductDfa(a, b, kind)
			results[ok]++
			if ok {
				checkMinimal(t, "ProductDfa", got, a, b, want)
			} else if !isZeroAutomaton(got) || len(impl.MinimizeDfa(a).Accept)*len(impl.MinimizeDfa(b).Accept) <= 40 {
				t.Errorf("ProductDfa(%v, %v, %d) = %v, %v", a, b, kind, got, ok)
			}
		}
	}
	if results[true] < 200 || results[false] < 200 {
		t.Errorf("%d products are found, and %d are not", results[true], results[false])
	}
}

func TestProductsAndComplementsOfShortWords(t *testing.T) {
	words := stringsOver("abc", 5)
	random := rand.New(rand.NewPCG(5, 55))
	for range 300 {
		a, b := randomAutomaton(random, 1+random.IntN(6)), randomAutomaton(random, 1+random.IntN(6))
		a, b = withCopies(random, a, len(a.Accept)+random.IntN(5)), withCopies(random, b, len(b.Accept)+random.IntN(5))
		or, isOr := impl.ProductDfa(a, b, impl.RxOr)
		and, isAnd := impl.ProductDfa(a, b, impl.RxAnd)
		not, least := impl.ComplementDfa(a), impl.MinimizeDfa(a)
		if !isOr || !isAnd {
			t.Fatalf("ProductDfa of %v and %v fails", a, b)
		}
		for _, s := range words {
			inA, inB := impl.AcceptsWord(a, s), impl.AcceptsWord(b, s)
			if impl.AcceptsWord(or, s) != (inA || inB) || impl.AcceptsWord(and, s) != (inA && inB) {
				t.Errorf("a product of %v and %v is wrong for %q", a, b, s)
			}
			if impl.AcceptsWord(not, s) == inA || impl.AcceptsWord(least, s) != inA {
				t.Errorf("the complement or the minimal automaton of %v is wrong for %q", a, s)
			}
		}
	}
}

func TestUnionsAreComplementsOfIntersections(t *testing.T) {
	list := randomAutomata(400)
	for i, a := range list[1:] {
		b := list[i]
		or, isOr := impl.ProductDfa(a, b, impl.RxOr)
		and, isAnd := impl.ProductDfa(impl.ComplementDfa(a), impl.ComplementDfa(b), impl.RxAnd)
		if isOr != isAnd || !reflect.DeepEqual(impl.ComplementDfa(and), or) {
			t.Errorf("the union of %v and %v is %v, %v, and the intersection of their complements %v, %v", a, b, or, isOr, and, isAnd)
		}
	}
}

// memoryOf adds the addresses of all elements, the unused ones too, and counts them.
func memoryOf(d impl.Dfa, places map[any]bool) int {
	accept, next := d.Accept[:cap(d.Accept)], d.Next[:cap(d.Next)]
	count := len(accept) + len(next)
	for i := range accept {
		places[&accept[i]] = true
	}
	for i := range next {
		places[&next[i]] = true
		row := next[i][:cap(next[i])]
		count += len(row)
		for k := range row {
			places[&row[k]] = true
		}
	}
	return count
}

// resultsOf calls all functions that return automata and take them.
func resultsOf(a impl.Dfa, b impl.Dfa) []impl.Dfa {
	or, _ := impl.ProductDfa(a, b, impl.RxOr)
	and, _ := impl.ProductDfa(a, b, impl.RxAnd)
	concat, _ := impl.ConcatDfa(a, b)
	star, _ := impl.StarDfa(a)
	return []impl.Dfa{impl.MinimizeDfa(a), impl.ComplementDfa(a), impl.MinimizeDfa(b), impl.ComplementDfa(b), or, and, concat, star}
}

func TestAutomataAreNewMemory(t *testing.T) {
	shared := []int{0, 0, 0}
	twice := impl.Dfa{Accept: []bool{true, false}, Next: [][]int{shared, shared}}
	list := append(randomAutomata(100), twice, twice, statesOf("+000"), statesOf("-000"), counter(40, "a", isZeroNumber), counter(40, "a", isZeroNumber))
	list = append(list, smallAutomata(100)...)
	for i, a := range list {
		b := list[(i+1)%len(list)]
		places, count := map[any]bool{}, 0
		for _, d := range append(resultsOf(a, b), resultsOf(a, b)...) {
			count += memoryOf(d, places)
		}
		if len(places) != count {
			t.Fatalf("results for %v and %v share memory with each other or with themselves", a, b)
		}
		of := map[any]bool{}
		memoryOf(a, of)
		memoryOf(b, of)
		for place := range of {
			if places[place] {
				t.Fatalf("a result for %v and %v shares memory with an argument", a, b)
			}
		}
	}
}

// withUnusedMemory returns a copy of d whose slices have unused elements.
func withUnusedMemory(d impl.Dfa) impl.Dfa {
	accept := append(slices.Clone(d.Accept), true, false, true)
	next := slices.Clone(d.Next)
	for q, row := range next {
		next[q] = append(slices.Clone(row), 77, -78)[:len(row)]
	}
	next = append(next, []int{79, 80, 81}, nil)
	return impl.Dfa{Accept: accept[:len(d.Accept)], Next: next[:len(d.Next)]}
}

func hasSameMemory(a impl.Dfa, b impl.Dfa) bool {
	for q := range a.Next {
		k := len(a.Next[q]) + 2
		if !slices.Equal(a.Next[q][:k], b.Next[q][:k]) {
			return false
		}
	}
	states, rows := len(a.Accept), len(a.Next)
	return slices.Equal(a.Accept[:states+3], b.Accept[:states+3]) && reflect.DeepEqual(a.Next[:rows+2], b.Next[:rows+2])
}

func TestAutomataFunctionsKeepTheirArguments(t *testing.T) {
	list := append(randomAutomata(100), statesOf("+000"), counter(40, "a", isZeroNumber))
	list = append(list, smallAutomata(100)...)
	for name, d := range invalidAutomata() {
		if !strings.Contains(name, "100000") {
			list = append(list, d)
		}
	}
	for i, d := range list {
		a, b := withUnusedMemory(d), withUnusedMemory(list[len(list)-1-i])
		resultsOf(a, b)
		impl.IsValidDfa(a)
		impl.EqualDfa(a, b)
		for _, s := range []string{"", "a", "abc", "d", longestWords()[0]} {
			impl.AcceptsWord(a, s)
			impl.RunDfa(a, 0, s)
		}
		if !hasSameMemory(a, withUnusedMemory(d)) || !hasSameMemory(b, withUnusedMemory(list[len(list)-1-i])) {
			t.Fatalf("an argument is changed to %v or %v", a, b)
		}
	}
}
