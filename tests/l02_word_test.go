package tests

import (
	"math"
	"slices"
	"strings"
	"testing"

	"loop.example/g00582/impl"
)

// letterNumbers is written out, so that the tests do not take it from the program.
var letterNumbers = map[byte]int{'a': 0, 'b': 1, 'c': 2}

// notWords are strings that are too long or contain other bytes.
var notWords = []string{
	"d", "`", "A", "B", "C", "X", "#", "-", " ", "\n", "\x00", "\xff", "\x80", "1", "e",
	"ad", "da", "aXb", "abC", "Abc", "ab ", " ab", "ab\n", "a\x00", "\x00a", "abcd", "dabc", "cd", "dc", "cccd",
	"\u00e9", "a\u00e9", "\u0430", "\u0061\u0301", "\uff41",
	strings.Repeat("a", 29) + "d",
	"d" + strings.Repeat("a", 29),
	strings.Repeat("c", 29) + "\xff",
	strings.Repeat("a", 31),
	strings.Repeat("b", 31),
	strings.Repeat("c", 31),
	strings.Repeat("a", 30) + "d",
	strings.Repeat("d", 30),
	strings.Repeat("d", 31),
	strings.Repeat("c", 32),
	strings.Repeat("a", 256),
	strings.Repeat("a", 1<<20),
}

func TestWordConstants(t *testing.T) {
	if impl.Letters != "abc" || impl.MaxWord != 30 {
		t.Errorf("Letters = %q, MaxWord = %d", impl.Letters, impl.MaxWord)
	}
}

func TestLetterIndexEveryByte(t *testing.T) {
	for i := range 256 {
		want, isLetter := letterNumbers[byte(i)]
		if !isLetter {
			want = -1
		}
		if got := impl.LetterIndex(byte(i)); got != want {
			t.Errorf("LetterIndex(%q) = %d, want %d", byte(i), got, want)
		}
	}
}

func TestIsWordEveryShortString(t *testing.T) {
	check := func(want bool, bytes ...byte) {
		if s := string(bytes); impl.IsWord(s) != want {
			t.Errorf("IsWord(%q) = %v", s, !want)
		}
	}
	check(true)
	for i := range 256 {
		_, first := letterNumbers[byte(i)]
		check(first, byte(i))
		for j := range 256 {
			_, second := letterNumbers[byte(j)]
			check(first && second, byte(i), byte(j))
		}
	}
}

func TestIsWordEveryLength(t *testing.T) {
	for n := range 100 {
		for _, pattern := range []string{"a", "b", "c", "abc", "cba"} {
			s := strings.Repeat(pattern, n)[:n]
			if got, want := impl.IsWord(s), n <= 30; got != want {
				t.Errorf("IsWord of %d letters = %v", n, got)
			}
		}
	}
}

func TestIsWordOtherByteAtEveryPlace(t *testing.T) {
	for n := 1; n <= 30; n++ {
		for i := range n {
			s := []byte(strings.Repeat("b", n))
			s[i] = 'd'
			if impl.IsWord(string(s)) {
				t.Errorf("IsWord(%q) = true", s)
			}
		}
	}
}

func TestIsWordRejectsOtherStrings(t *testing.T) {
	for _, s := range notWords {
		if impl.IsWord(s) {
			t.Errorf("IsWord(%.40q) = true", s)
		}
	}
}

func TestCompareWords(t *testing.T) {
	long := strings.Repeat("a", 1<<20)
	for _, c := range []struct {
		a, b string
		want int
	}{
		{"", "", 0},
		{"", "a", -1},
		{"a", "a", 0},
		{"a", "b", -1},
		{"b", "c", -1},
		{"c", "aa", -1},
		{"b", "aa", -1},
		{"a", "ab", -1},
		{"ab", "ba", -1},
		{"ac", "ba", -1},
		{"abc", "abc", 0},
		{"abb", "abc", -1},
		{"acc", "baa", -1},
		{"ccc", "aaaa", -1},
		{strings.Repeat("c", 30), strings.Repeat("c", 30), 0},
		{strings.Repeat("a", 29) + "b", strings.Repeat("a", 29) + "c", -1},
		{strings.Repeat("c", 29), strings.Repeat("a", 30), -1},
		// Strings that are no words.
		{"", "\x00", -1},
		{"Z", "a", -1},
		{"c", "d", -1},
		{"zz", "zz", 0},
		{"a", "\xff", -1},
		{"\x7f", "\x80", -1},
		{"\xff", "\x00\x00", -1},
		{"\xff\xfe", "\xff\xff", -1},
		{"\xff", "\u00e9", -1},
		{"\U0001f600", "\uffff\x00", 1},
		{"a\x00", "a", 1},
		{"a\x00b", "a\x00c", -1},
		{strings.Repeat("c", 30), strings.Repeat("a", 31), -1},
		{strings.Repeat("a", 31), strings.Repeat("a", 31), 0},
		{long, long, 0},
		{long, long + "a", -1},
		{long + "a", long + "b", -1},
		{"b", long, -1},
	} {
		if got := impl.CompareWords(c.a, c.b); got != c.want {
			t.Errorf("CompareWords(%.40q, %.40q) = %d, want %d", c.a, c.b, got, c.want)
		}
		if got := impl.CompareWords(c.b, c.a); got != -c.want {
			t.Errorf("CompareWords(%.40q, %.40q) = %d, want %d", c.b, c.a, got, -c.want)
		}
	}
}

func TestCompareWordsEveryPair(t *testing.T) {
	words := stringsOver("abc", 4)
	for i, a := range words {
		for j, b := range words {
			want := 0
			if i < j {
				want = -1
			} else if i > j {
				want = 1
			}
			if got := impl.CompareWords(a, b); got != want {
				t.Fatalf("CompareWords(%q, %q) = %d, want %d", a, b, got, want)
			}
		}
	}
}

func TestCompareWordsEveryPairOfBytes(t *testing.T) {
	for i := range 256 {
		for j := range 256 {
			a, b := string([]byte{byte(i)}), string([]byte{byte(j)})
			got := impl.CompareWords(a, b)
			if (got < 0) != (i < j) || (got > 0) != (i > j) || got < -1 || got > 1 {
				t.Fatalf("CompareWords(%q, %q) = %d", a, b, got)
			}
		}
	}
}

func TestWordsOfLength(t *testing.T) {
	for n, want := range map[int][]string{
		0: {""},
		1: {"a", "b", "c"},
		2: {"aa", "ab", "ac", "ba", "bb", "bc", "ca", "cb", "cc"},
	} {
		if got := impl.WordsOfLength(n); !slices.Equal(got, want) {
			t.Errorf("WordsOfLength(%d) = %q", n, got)
		}
	}
	for n, count := range []int{1, 3, 9, 27, 81, 243} {
		all := stringsOver("abc", n)
		want := all[len(all)-count:]
		if got := impl.WordsOfLength(n); !slices.Equal(got, want) {
			t.Errorf("WordsOfLength(%d) = %q", n, got)
		}
	}
}

func TestWordsOfLengthOutOfRange(t *testing.T) {
	for _, n := range []int{-1, -2, -5, 6, 7, 30, 31, 1 << 40, -1 << 40, 1 << 32, math.MaxInt, math.MinInt} {
		if got := impl.WordsOfLength(n); got != nil {
			t.Errorf("WordsOfLength(%d) has %d words", n, len(got))
		}
	}
}

func TestWordsUpTo(t *testing.T) {
	if got := impl.WordsUpTo(1); !slices.Equal(got, []string{"", "a", "b", "c"}) {
		t.Errorf("WordsUpTo(1) = %q", got)
	}
	for n, count := range []int{1, 4, 13, 40, 121, 364} {
		if got := impl.WordsUpTo(n); len(got) != count || !slices.Equal(got, stringsOver("abc", n)) {
			t.Errorf("WordsUpTo(%d) = %q", n, got)
		}
	}
	for _, n := range []int{6, 7, 30, 31, 1 << 32, math.MaxInt} {
		if got := impl.WordsUpTo(n); !slices.Equal(got, stringsOver("abc", 5)) {
			t.Errorf("WordsUpTo(%d) has %d words", n, len(got))
		}
	}
	for _, n := range []int{-1, -2, -5, -1 << 32, -math.MaxInt, math.MinInt} {
		if got := impl.WordsUpTo(n); got != nil {
			t.Errorf("WordsUpTo(%d) has %d words", n, len(got))
		}
	}
}

func TestWordsUpToJoinsTheLengths(t *testing.T) {
	var want []string
	for n := range 6 {
		want = append(want, impl.WordsOfLength(n)...)
		if got := impl.WordsUpTo(n); !slices.Equal(got, want) {
			t.Errorf("WordsUpTo(%d) is not WordsOfLength of 0 to %d", n, n)
		}
	}
}

func TestWordsUpToAscends(t *testing.T) {
	for n := range 6 {
		list := impl.WordsUpTo(n)
		for i := 1; i < len(list); i++ {
			if impl.CompareWords(list[i-1], list[i]) != -1 || impl.CompareWords(list[i], list[i-1]) != 1 {
				t.Errorf("WordsUpTo(%d): %q before %q", n, list[i-1], list[i])
			}
			if got := impl.NextWord(list[i-1]); got != list[i] {
				t.Errorf("NextWord(%q) = %q, want %q", list[i-1], got, list[i])
			}
		}
		for _, s := range list {
			if !impl.IsWord(s) || len(s) > n {
				t.Errorf("WordsUpTo(%d) contains %q", n, s)
			}
		}
	}
}

func TestNextWordOfEveryShortWord(t *testing.T) {
	words := stringsOver("abc", 7)
	for i, s := range words[:len(words)-1] {
		if got := impl.NextWord(s); got != words[i+1] {
			t.Fatalf("NextWord(%q) = %q, want %q", s, got, words[i+1])
		}
	}
}

func TestNextWordOfLastWords(t *testing.T) {
	for s, want := range map[string]string{"": "a", "c": "aa", "cc": "aaa", "ccc": "aaaa"} {
		if got := impl.NextWord(s); got != want {
			t.Errorf("NextWord(%q) = %q, want %q", s, got, want)
		}
	}
	for n := range 30 {
		s := strings.Repeat("c", n)
		if got := impl.NextWord(s); got != strings.Repeat("a", n+1) {
			t.Errorf("NextWord(%q) = %q", s, got)
		}
	}
	if got := impl.NextWord(strings.Repeat("c", 30)); got != "" {
		t.Errorf("NextWord of the last word of 30 letters = %q", got)
	}
}

func TestNextWordCarries(t *testing.T) {
	for n := 1; n <= 30; n++ {
		for carried := range n {
			start := strings.Repeat("cab", n)[:n-carried-1]
			for _, c := range []struct{ letter, next string }{{"a", "b"}, {"b", "c"}} {
				s := start + c.letter + strings.Repeat("c", carried)
				want := start + c.next + strings.Repeat("a", carried)
				if got := impl.NextWord(s); got != want {
					t.Errorf("NextWord(%q) = %q, want %q", s, got, want)
				}
			}
		}
	}
}

func TestNextWordNearTheLastWord(t *testing.T) {
	start := strings.Repeat("c", 29)
	for s, want := range map[string]string{
		start + "a":                   start + "b",
		start + "b":                   start + "c",
		start[:28] + "bc":             start[:28] + "ca",
		"b" + start:                   "c" + strings.Repeat("a", 29),
		"a" + start:                   "b" + strings.Repeat("a", 29),
		strings.Repeat("a", 30):       strings.Repeat("a", 29) + "b",
		"c" + strings.Repeat("a", 29): "c" + strings.Repeat("a", 28) + "b",
	} {
		if got := impl.NextWord(s); got != want {
			t.Errorf("NextWord(%q) = %q, want %q", s, got, want)
		}
	}
}

func TestNextWordOfOtherStrings(t *testing.T) {
	for _, s := range notWords {
		if got := impl.NextWord(s); got != "" {
			t.Errorf("NextWord(%.40q) = %.40q", s, got)
		}
	}
	for i := range 256 {
		if _, isLetter := letterNumbers[byte(i)]; isLetter {
			continue
		}
		other := string([]byte{byte(i)})
		for _, s := range []string{other, "a" + other, other + "a", other + "c", "c" + other, "b" + other + "c"} {
			if got := impl.NextWord(s); got != "" {
				t.Errorf("NextWord(%q) = %q", s, got)
			}
		}
	}
}

func TestWordListsAreNew(t *testing.T) {
	for name, list := range map[string]func(int) []string{"WordsOfLength": impl.WordsOfLength, "WordsUpTo": impl.WordsUpTo} {
		for n := range 6 {
			first, second := list(n), list(n)
			want := slices.Clone(second)
			for i := range first {
				first[i] = "changed"
			}
			_ = append(first[:len(first)-1], "changed", "changed")
			if !slices.Equal(second, want) || !slices.Equal(list(n), want) {
				t.Errorf("results of %s(%d) share memory", name, n)
			}
		}
	}
}
