package tests

import (
	"fmt"
	"math"
	"slices"
	"strings"
	"testing"

	"loop.example/g00582/impl"
)

const maxText = 1048576

func TestFormatInt(t *testing.T) {
	for n, want := range map[int]string{
		0:             "0",
		1:             "1",
		-1:            "-1",
		-5:            "-5",
		9:             "9",
		10:            "10",
		-10:           "-10",
		100:           "100",
		1002003:       "1002003",
		999999999999:  "999999999999",
		-999999999999: "-999999999999",
		math.MaxInt:   "9223372036854775807",
		-math.MaxInt:  "-9223372036854775807",
		math.MinInt:   "-9223372036854775808",
	} {
		if got := impl.FormatInt(n); got != want {
			t.Errorf("FormatInt(%d) = %q, want %q", n, got, want)
		}
	}
}

func TestFormatIntNearPowers(t *testing.T) {
	for _, base := range []int{2, 10} {
		for power := 1; power <= math.MaxInt/base; power *= base {
			for _, n := range []int{power - 1, power, power + 1, 1 - power, -power, -power - 1} {
				if got, want := impl.FormatInt(n), fmt.Sprint(n); got != want {
					t.Errorf("FormatInt(%d) = %q", n, got)
				}
			}
		}
	}
}

// checkParse expects n for s if the integer is in the range of the function, and 0 and false otherwise.
func checkParse(t *testing.T, s string, n int, isNumber bool, isInt bool) {
	t.Helper()
	check := func(name string, got int, ok bool, accepted bool) {
		t.Helper()
		want := 0
		if accepted {
			want = n
		}
		if got != want || ok != accepted {
			t.Errorf("%s(%.40q) = %d, %v, want %d, %v", name, s, got, ok, want, accepted)
		}
	}
	got, ok := impl.ParseNumber(s)
	check("ParseNumber", got, ok, isNumber)
	got, ok = impl.ParseInt(s)
	check("ParseInt", got, ok, isInt)
}

func TestParseEndsOfRanges(t *testing.T) {
	for _, c := range []struct {
		n               int
		isNumber, isInt bool
	}{
		{0, true, true},
		{1, true, true},
		{-1, false, true},
		{42, true, true},
		{-42, false, true},
		{100000, true, true},
		{999998, true, true},
		{999999, true, true},
		{1000000, false, true},
		{-999999, false, true},
		{-1000000, false, true},
		{math.MaxUint32, false, true},
		{math.MaxUint32 + 1, false, true},
		{math.MaxUint32 + 6, false, true},
		{999999999998, false, true},
		{999999999999, false, true},
		{1000000000000, false, false},
		{-999999999998, false, true},
		{-999999999999, false, true},
		{-1000000000000, false, false},
		{9999999999999, false, false},
		{-9999999999999, false, false},
		{math.MaxInt, false, false},
		{-math.MaxInt, false, false},
		{math.MinInt, false, false},
	} {
		checkParse(t, fmt.Sprint(c.n), c.n, c.isNumber, c.isInt)
	}
}

func TestParseEveryNumber(t *testing.T) {
	for n := 0; n <= 999999; n++ {
		s := impl.FormatInt(n)
		if got, ok := impl.ParseNumber(s); got != n || !ok {
			t.Fatalf("ParseNumber(%q) = %d, %v", s, got, ok)
		}
	}
}

func TestParseManyIntegers(t *testing.T) {
	for n := -999999999999; n <= 999999999999; n += 12345678 {
		s := impl.FormatInt(n)
		if got, ok := impl.ParseInt(s); got != n || !ok {
			t.Fatalf("ParseInt(%q) = %d, %v", s, got, ok)
		}
	}
}

func TestParseRejectsOtherStrings(t *testing.T) {
	for _, s := range []string{
		"", "-", "--", "+", "+-1", "-+1", "--1", "1-", "1-1", "-0", "+0", "00", "-00", "000",
		"007", "-007", "01", "-01", "0000001", "-0000000000001", "000000000000", "+1", "+12",
		" ", " 1", "1 ", "- 1", " -1", "-1 ", "1 2", "\t1", "1\t", "1\n", "\n1", "1\r", "1\x00", "\x001",
		"a", "1a", "a1", "1a1", "0x1", "0b1", "0o7", "1e3", "1E3", "1.0", "1.", ".1", "1,000", "1_000", "1/2",
		"1/", "1:", "/1", ":1", "12345/", "12345:", "Inf", "NaN", "null",
		"\uff11", "\u0661", "\u22121", "\u00b2", "\ufeff1", "\u00a01", "\xff", "1\xff", "\xb1", "1\xb1", "\x801",
	} {
		checkParse(t, s, 0, false, false)
	}
}

// The values of these strings modulo 2 to the 64 or 32 are in the ranges.
func TestParseRejectsWrappedIntegers(t *testing.T) {
	for _, s := range []string{
		"9223372036854775808", "-9223372036854775809", "18446744073709551615", "18446744073709551616",
		"18446744073709551617", "-18446744073709551616", "-18446744073709551617", "36893488147419103234",
		"184467440737095516161", "340282366920938463463374607431768211457", "9223372036854775813",
	} {
		checkParse(t, s, 0, false, false)
	}
	if n, ok := impl.ParseNumber("4294967301"); n != 0 || ok {
		t.Errorf("ParseNumber(%q) = %d, %v", "4294967301", n, ok)
	}
}

func TestParseRejectsLongStrings(t *testing.T) {
	for _, n := range []int{13, 14, 20, 100, 1 << 20} {
		for _, s := range []string{
			strings.Repeat("1", n),
			strings.Repeat("9", n),
			strings.Repeat("0", n),
			strings.Repeat("0", n) + "1",
			"1" + strings.Repeat("0", n),
			strings.Repeat("-", n),
			strings.Repeat("-", n) + "1",
			strings.Repeat(" ", n) + "1",
			"1" + strings.Repeat(" ", n),
			strings.Repeat("a", n),
		} {
			checkParse(t, s, 0, false, false)
			checkParse(t, "-"+s, 0, false, false)
		}
	}
}

func TestParseEveryShortString(t *testing.T) {
	integers := map[string]int{}
	for n := -9; n <= 99; n++ {
		integers[fmt.Sprint(n)] = n
	}
	check := func(s string) {
		n, isInt := integers[s]
		checkParse(t, s, n, isInt && n >= 0, isInt)
	}
	check("")
	for i := range 256 {
		check(string([]byte{byte(i)}))
		for j := range 256 {
			check(string([]byte{byte(i), byte(j)}))
		}
	}
}

func TestSplitByte(t *testing.T) {
	for _, c := range []struct {
		s    string
		by   byte
		want []string
	}{
		{"", ',', []string{""}},
		{"", 0, []string{""}},
		{"a", ',', []string{"a"}},
		{"abc def", ',', []string{"abc def"}},
		{"a,b", ',', []string{"a", "b"}},
		{"ab,cd,ef", ',', []string{"ab", "cd", "ef"}},
		{",", ',', []string{"", ""}},
		{",,", ',', []string{"", "", ""}},
		{",a", ',', []string{"", "a"}},
		{"a,", ',', []string{"a", ""}},
		{",a,", ',', []string{"", "a", ""}},
		{"a,,b", ',', []string{"a", "", "b"}},
		{"a,,,b", ',', []string{"a", "", "", "b"}},
		{",,a,,", ',', []string{"", "", "a", "", ""}},
		{"a b\nc", '\n', []string{"a b", "c"}},
		{"a\x00b\x00", 0, []string{"a", "b", ""}},
		{"a\xffb", 0xff, []string{"a", "b"}},
		{"a\u00ffb", 0xff, []string{"a\u00ffb"}},
		{"a\u00e9b", 0xc3, []string{"a", "\xa9b"}},
		{"a\u00e9b", 0xa9, []string{"a\xc3", "b"}},
		{"a\u00e9b", 0xe9, []string{"a\u00e9b"}},
		{"\x80\x80", 0x80, []string{"", "", ""}},
	} {
		if got := impl.SplitByte(c.s, c.by); !slices.Equal(got, c.want) {
			t.Errorf("SplitByte(%q, %q) = %q, want %q", c.s, c.by, got, c.want)
		}
	}
}

func TestSplitByteLong(t *testing.T) {
	if got := impl.SplitByte(strings.Repeat(";", 100000), ';'); len(got) != 100001 || impl.Join(got, "") != "" {
		t.Errorf("SplitByte of 100000 separators: %d parts", len(got))
	}
	long := strings.Repeat("a", 2*maxText)
	if got := impl.SplitByte(long+"b"+long, 'b'); !slices.Equal(got, []string{long, long}) {
		t.Errorf("SplitByte of a long string: %d parts", len(got))
	}
}

func TestJoin(t *testing.T) {
	for _, c := range []struct {
		list []string
		by   string
		want string
	}{
		{nil, ",", ""},
		{[]string{}, ",", ""},
		{nil, "", ""},
		{[]string{""}, ",", ""},
		{[]string{"a"}, ",", "a"},
		{[]string{"abc"}, "", "abc"},
		{[]string{"", ""}, ",", ","},
		{[]string{"", "", ""}, "ab", "abab"},
		{[]string{"a", "b"}, ",", "a,b"},
		{[]string{"a", "b"}, "", "ab"},
		{[]string{"ab", "", "c"}, ", ", "ab, , c"},
		{[]string{"", "a"}, ",", ",a"},
		{[]string{"a", ""}, ",", "a,"},
		{[]string{"a,", ",b"}, ",", "a,,,b"},
		{[]string{"b", "a", "c"}, "-", "b-a-c"},
		{[]string{"\xff", "\x00"}, "\xc3", "\xff\xc3\x00"},
		{[]string{"a"}, strings.Repeat("b", 2*maxText), "a"},
		{nil, strings.Repeat("b", 2*maxText), ""},
	} {
		if got := impl.Join(c.list, c.by); got != c.want {
			t.Errorf("Join(%q, %.40q) = %q, want %q", c.list, c.by, got, c.want)
		}
	}
}

func TestJoinLimit(t *testing.T) {
	letters := func(n int) string { return strings.Repeat("a", n) }
	ones := slices.Repeat([]string{"a"}, maxText/2)
	for _, c := range []struct {
		name string
		list []string
		by   string
		size int
	}{
		{"one element", []string{letters(maxText)}, "", maxText},
		{"one element too long", []string{letters(maxText + 1)}, "", 0},
		{"two elements", []string{letters(maxText - 1), "b"}, "", maxText},
		{"two elements too long", []string{letters(maxText), "b"}, "", 0},
		{"last separator", []string{letters(maxText - 1), ""}, ",", maxText},
		{"last separator too long", []string{letters(maxText), ""}, ",", 0},
		{"separator first", []string{"", letters(maxText - 1)}, ",", maxText},
		{"separator first too long", []string{"", letters(maxText)}, ",", 0},
		{"only separators", make([]string, maxText+1), ",", maxText},
		{"only separators too long", make([]string, maxText+2), ",", 0},
		{"separators of two bytes", make([]string, maxText/2+1), ", ", maxText},
		{"separators of two bytes too long", make([]string, maxText/2+2), ", ", 0},
		{"many elements", append(slices.Clone(ones), ""), ",", maxText},
		{"many elements too long", append(slices.Clone(ones), "b"), ",", 0},
		{"long separator", []string{"", ""}, letters(maxText), maxText},
		{"long separator too long", []string{"a", ""}, letters(maxText), 0},
		{"short after long", []string{letters(maxText + 1), "a"}, "", 0},
		{"huge", slices.Repeat([]string{letters(maxText)}, 1<<20), "", 0},
	} {
		want := ""
		if c.size > 0 {
			want = strings.Join(c.list, c.by)
		}
		got := impl.Join(c.list, c.by)
		if len(got) != c.size || got != want {
			t.Errorf("%s: Join has %d bytes, want %d", c.name, len(got), c.size)
		}
	}
}

// stringsOver returns all strings of at most n of the letters.
func stringsOver(letters string, n int) []string {
	list := []string{""}
	last := list
	for range n {
		var next []string
		for _, s := range last {
			for i := range len(letters) {
				next = append(next, s+letters[i:i+1])
			}
		}
		list = append(list, next...)
		last = next
	}
	return list
}

func TestJoinOfSplit(t *testing.T) {
	for _, s := range stringsOver(",a\n", 7) {
		for _, by := range []byte{',', 'a', '\n', 'b'} {
			parts := impl.SplitByte(s, by)
			if len(parts) != strings.Count(s, string(rune(by)))+1 {
				t.Fatalf("SplitByte(%q, %q) = %q", s, by, parts)
			}
			if got := impl.Join(parts, string(rune(by))); got != s {
				t.Fatalf("Join of SplitByte(%q, %q) = %q", s, by, got)
			}
		}
	}
}

func TestJoinOfSplitEveryByte(t *testing.T) {
	all := make([]byte, 256)
	for i := range all {
		all[i] = byte(i)
	}
	for i := range 256 {
		by := byte(i)
		parts := impl.SplitByte(string(all), by)
		if !slices.Equal(parts, []string{string(all[:i]), string(all[i+1:])}) {
			t.Errorf("SplitByte of all bytes at %d: %q", i, parts)
		}
		if got := impl.Join(parts, string([]byte{by})); got != string(all) {
			t.Errorf("Join of SplitByte at %d: %q", i, got)
		}
	}
}

func TestSplitOfJoin(t *testing.T) {
	words := stringsOver("ab", 2)
	for _, a := range words {
		for _, b := range words {
			for _, c := range words {
				for _, list := range [][]string{{a}, {a, b}, {a, b, c}} {
					if got := impl.SplitByte(impl.Join(list, "|"), '|'); !slices.Equal(got, list) {
						t.Fatalf("SplitByte of Join of %q = %q", list, got)
					}
				}
			}
		}
	}
}

func TestJoinKeepsItsList(t *testing.T) {
	all := []string{"a", "b", "c", "d"}
	for n := range len(all) + 1 {
		impl.Join(all[:n], ",")
	}
	if !slices.Equal(all, []string{"a", "b", "c", "d"}) {
		t.Errorf("Join changed its list to %q", all)
	}
}

func TestSplitByteGivesNewSlices(t *testing.T) {
	first := impl.SplitByte("a,b,c", ',')
	second := impl.SplitByte("a,b,c", ',')
	first[1] = "changed"
	_ = append(first[:1], "changed")
	if !slices.Equal(second, []string{"a", "b", "c"}) {
		t.Errorf("results of SplitByte share memory: %q", second)
	}
}
