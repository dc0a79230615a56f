package tests

import (
	"math/rand/v2"
	"slices"
	"strings"
	"testing"

	"loop.example/g00582/impl"
)

// otherStrings are no terms. They hold no letter and no variable, but the numbers of the last runes end in the byte of one.
var otherStrings = []string{
	"#", "##", "-", "=", " ", "\n", "\x00", "\x7f", "0", "d", "`", "W", "[", "A", "B", "C", "x", "y", "z",
	"\x80", "\xbf", "\xc0", "\xd8", "\xe1", "\xff", "\x80\x80", "\xff\xfe",
	"\u00e9", "\u00d8", "\u20ac", "\ufffd", "\U0001f600",
	"\xc3", "\xe2\x82", "\xe2", "\xf0\x9f\x98", "\xf0\x9f", "\xed\xa0\x80", "\xc1\x81",
	"\u0161", "\u0162", "\u0163", "\u0158", "\u0159", "\u015a", "\u0458", "\u2058", "\u2061", "\U00010058", "\U00010061",
}

// mixedStrings has each of otherStrings alone and among letters and variables.
func mixedStrings() []string {
	var list []string
	for _, other := range otherStrings {
		list = append(list, other, "a"+other, other+"a", "X"+other, other+"X", "Y"+other+"Z", "XaYb"+other+"ZcX", other+"aXYZ"+other)
	}
	return list
}

// otherBytes are the bytes that are no variables.
func otherBytes() []byte {
	var list []byte
	for i := range 256 {
		if i != 'X' && i != 'Y' && i != 'Z' {
			list = append(list, byte(i))
		}
	}
	return list
}

// valuesForTests also has values that are no words, and words that hold names of variables.
func valuesForTests() []impl.Values {
	long := strings.Repeat("abc", 10)
	return []impl.Values{
		{},
		{X: "a"},
		{Y: "b"},
		{Z: "c"},
		{X: "ab", Y: "c"},
		{X: "b", Z: "c"},
		{Y: "cc", Z: "a"},
		{X: "a", Y: "b", Z: "c"},
		{X: "aa", Y: "aa", Z: "aa"},
		{X: long, Y: long[1:], Z: long[:29]},
		{X: "X", Y: "Y", Z: "Z"},
		{X: "Y", Y: "Z", Z: "X"},
		{X: "aYbZ", Y: "XX", Z: "YXZ"},
		{X: "\xff", Y: "\u00e9X", Z: "#\xe2"},
		{X: strings.Repeat("a", 100), Y: "d", Z: "="},
	}
}

// The functions from here on are second ways to the results, which go byte by byte.

func isTermByBytes(s string) bool {
	for i := range len(s) {
		if strings.IndexByte("abcXYZ", s[i]) < 0 {
			return false
		}
	}
	return len(s) <= 12
}

func countByBytes(s string, b byte) int {
	count := 0
	for i := range len(s) {
		if s[i] == b {
			count++
		}
	}
	return count
}

func varsByBytes(s string) string {
	names := []byte{}
	for i := range len(s) {
		if s[i] >= 'X' && s[i] <= 'Z' {
			names = append(names, s[i])
		}
	}
	slices.Sort(names)
	return string(slices.Compact(names))
}

func replacedByBytes(s string, name byte, by string) string {
	result := []byte{}
	for i := range len(s) {
		if s[i] == name {
			result = append(result, by...)
		} else {
			result = append(result, s[i])
		}
	}
	return string(result)
}

func tableOf(v impl.Values) map[byte]string { return map[byte]string{'X': v.X, 'Y': v.Y, 'Z': v.Z} }

func appliedByBytes(s string, v impl.Values) string {
	words := tableOf(v)
	result := []byte{}
	for i := range len(s) {
		if word, isVariable := words[s[i]]; isVariable {
			result = append(result, word...)
		} else {
			result = append(result, s[i])
		}
	}
	return string(result)
}

func formattedByBytes(v impl.Values, names string) string {
	words := tableOf(v)
	result := ""
	for name := byte('X'); name <= 'Z'; name++ {
		if strings.IndexByte(names, name) >= 0 {
			result += " " + string(rune(name)) + "=" + words[name]
		}
	}
	return strings.TrimPrefix(result, " ")
}

func checkTerm(t *testing.T, s string, want bool) {
	t.Helper()
	if got := impl.IsTerm(s); got != want {
		t.Errorf("IsTerm(%.40q) = %v", s, got)
	}
}

func checkVars(t *testing.T, s string, want string) {
	t.Helper()
	if got := impl.VarsOf(s); got != want {
		t.Errorf("VarsOf(%.40q) = %q, want %q", s, got, want)
	}
}

func checkCountByte(t *testing.T, s string, b byte, want int) {
	t.Helper()
	if got := impl.CountByte(s, b); got != want {
		t.Errorf("CountByte(%.40q, %#x) = %d, want %d", s, b, got, want)
	}
}

func checkReplace(t *testing.T, s string, name byte, by string, want string) {
	t.Helper()
	if got := impl.ReplaceVar(s, name, by); got != want {
		t.Errorf("ReplaceVar(%.40q, %#x, %.40q) = %.40q (%d bytes), want %.40q (%d bytes)", s, name, by, got, len(got), want, len(want))
	}
}

func checkApply(t *testing.T, s string, v impl.Values, want string) {
	t.Helper()
	if got := impl.ApplyValues(s, v); got != want {
		t.Errorf("ApplyValues(%.40q, %.90q) = %.40q (%d bytes), want %.40q (%d bytes)", s, v, got, len(got), want, len(want))
	}
}

func checkFormatValues(t *testing.T, v impl.Values, names string, want string) {
	t.Helper()
	if got := impl.FormatValues(v, names); got != want {
		t.Errorf("FormatValues(%.90q, %.40q) = %.90q (%d bytes), want %.90q (%d bytes)", v, names, got, len(got), want, len(want))
	}
}

func checkIsValues(t *testing.T, v impl.Values, want bool) {
	t.Helper()
	if got := impl.IsValues(v); got != want {
		t.Errorf("IsValues(%.90q) = %v", v, got)
	}
}

func TestTermConstants(t *testing.T) {
	if impl.Variables != "XYZ" || impl.MaxTerm != 12 {
		t.Errorf("Variables = %q, MaxTerm = %d", impl.Variables, impl.MaxTerm)
	}
}

func TestIsTerm(t *testing.T) {
	for _, s := range []string{
		"", "a", "b", "c", "X", "Y", "Z", "aXYZ", "abc", "XYZ", "ZYX", "XX", "aXbYcZ", "ZaXX",
		"aaaaaaaaaaaa", "XXXXXXXXXXXX", "abcXYZabcXYZ", "ZZZZZZZZZZZa",
	} {
		checkTerm(t, s, true)
	}
	for _, s := range []string{
		"aaaaaaaaaaaaa", "XXXXXXXXXXXXX", "abcXYZabcXYZa", "abcXYZabcXYZX",
		"#", "a#", "#a", "X#Y", "aX#", "d", "ad", "x", "y", "z", "ax", "Xx", "xX", "A", "W", "XW", "aX ", " aX", "a X", "X=a", "-",
		strings.Repeat("a", 11) + "#", "#" + strings.Repeat("X", 11), strings.Repeat("a", 12) + "#", strings.Repeat("#", 13),
	} {
		checkTerm(t, s, false)
	}
}

func TestIsTermEveryShortString(t *testing.T) {
	for i := range 256 {
		one := string([]byte{byte(i)})
		checkTerm(t, one, strings.Contains("abcXYZ", one))
		for j := range 256 {
			two := string([]byte{byte(i), byte(j)})
			checkTerm(t, two, strings.Contains("abcXYZ", two[:1]) && strings.Contains("abcXYZ", two[1:]))
		}
	}
}

func TestIsTermEveryLength(t *testing.T) {
	for n := range 300 {
		for _, pattern := range []string{"a", "Z", "aX", "abcXYZ"} {
			checkTerm(t, strings.Repeat(pattern, n)[:n], n <= 12)
		}
	}
	checkTerm(t, strings.Repeat("X", 1<<20), false)
	checkTerm(t, strings.Repeat("X", 1<<16+1), false)
}

func TestIsTermOtherByteAtEveryPlace(t *testing.T) {
	for n := 1; n <= 12; n++ {
		for i := range n {
			for _, b := range otherBytes() {
				s := []byte(strings.Repeat("aX", 6)[:n])
				s[i] = b
				checkTerm(t, string(s), b >= 'a' && b <= 'c')
			}
		}
	}
}

func TestIsTermOfOtherStrings(t *testing.T) {
	for _, s := range mixedStrings() {
		checkTerm(t, s, false)
	}
}

// Only a rune of one byte is a letter or a variable, also where the number of a longer one ends in the same byte.
func TestIsTermOfEveryRune(t *testing.T) {
	for r := rune(0); r <= 0x10ffff; r++ {
		s := string(r)
		want := strings.Contains("abcXYZ", s)
		if impl.IsTerm(s) != want || impl.IsTerm("aX"+s+"b") != want {
			t.Fatalf("IsTerm(%q) is not %v", s, want)
		}
	}
}

func TestVarsOf(t *testing.T) {
	for s, want := range map[string]string{
		"": "", "a": "", "abc": "", "X": "X", "Y": "Y", "Z": "Z", "aX": "X", "Ya": "Y", "bZc": "Z",
		"XX": "X", "aYbYc": "Y", "ZZZ": "Z",
		"XY": "XY", "YX": "XY", "XZ": "XZ", "ZX": "XZ", "YZ": "YZ", "ZY": "YZ", "ZaXX": "XZ", "YaXbY": "XY", "ZYZYZY": "YZ",
		"XYZ": "XYZ", "XZY": "XYZ", "YXZ": "XYZ", "YZX": "XYZ", "ZXY": "XYZ", "ZYX": "XYZ", "ZZYYXX": "XYZ", "aZbYcXa": "XYZ",
	} {
		checkVars(t, s, want)
	}
}

func TestVarsOfStringsThatAreNoTerms(t *testing.T) {
	for s, want := range map[string]string{
		"#": "", "x": "", "xyz": "", "WXYZ[": "XYZ", "X#Y": "XY", "#Z": "Z", "Y=a X=b": "XY", "\n": "",
		"\xff": "", "\xffX": "X", "X\xff": "X", "\u00e9Z\u20acY": "YZ", "\xe2\x82X": "X", "X\xe2\x82": "X", "\xc3Z": "Z", "Z\xc3X": "XZ",
		"\u0158": "", "\u0159\u015a": "", "\u0158Y": "Y", "\ufffd": "", "\xd8": "", "\xd9\xda": "",
		"aaaaaaaaaaaaaaaX": "X", "YZYZYZYZYZYZYZYZ": "YZ",
		strings.Repeat("a", 1<<20): "", strings.Repeat("Z", 1<<20): "Z", strings.Repeat("a", 1<<20) + "Y": "Y", "Z" + strings.Repeat("X", 1<<20): "XZ",
	} {
		checkVars(t, s, want)
	}
	for _, s := range otherStrings {
		checkVars(t, s, "")
		for _, names := range []string{"X", "Y", "Z", "XY", "XZ", "YZ", "XYZ"} {
			checkVars(t, s+names, names)
			checkVars(t, names+s, names)
			checkVars(t, s+names+s, names)
			checkVars(t, names[:1]+s+names[1:], names)
		}
	}
}

func TestVarsOfEveryShortString(t *testing.T) {
	for _, s := range stringsOver("aXYZ#\xff", 5) {
		checkVars(t, s, varsByBytes(s))
	}
	for i := range 256 {
		for j := range 256 {
			s := string([]byte{byte(i), byte(j)})
			checkVars(t, s, varsByBytes(s))
		}
	}
}

func TestCountByte(t *testing.T) {
	for _, c := range []struct {
		s    string
		b    byte
		want int
	}{
		{"", 'a', 0}, {"", 0, 0}, {"", 0xff, 0},
		{"a", 'a', 1}, {"a", 'b', 0}, {"a", 'A', 0}, {"aa", 'a', 2}, {"abca", 'a', 2}, {"XX", 'X', 2}, {"XX", 'x', 0},
		{"aXYZ", 'X', 1}, {"aXYZ", 'Y', 1}, {"aXYZ", 'Z', 1}, {"ZaXX", 'X', 2}, {"ZaXX", 'Y', 0},
		{"a#b#", '#', 2}, {"a b", ' ', 1}, {"a\nb\n\n", '\n', 3}, {"\x00a\x00", 0, 2}, {"a", 0, 0},
		{"\xff", 0xff, 1}, {"\xff\xff\xff", 0xff, 3}, {"a\xffb", 0xff, 1}, {"a\xffb", 0xfe, 0}, {"\x80", 0x80, 1}, {"a\x80\x80", 0x80, 2},
		{"\u00e9", 0xc3, 1}, {"\u00e9", 0xa9, 1}, {"\u00e9", 0xe9, 0}, {"\u00e9\u00e9X\u00e9", 0xc3, 3}, {"\u00e9\u00e9X\u00e9", 0xa9, 3},
		{"\u00c3", 0xc3, 1}, {"\u00ff", 0xff, 0}, {"\u0080", 0x80, 1}, {"\u20ac", 0xe2, 1}, {"\u20ac", 0x82, 1}, {"\u20ac", 0xac, 1}, {"\u20ac", 0xc2, 0},
		{"\xe2\x82", 0x82, 1}, {"\xe2\x82", 0xac, 0}, {"\xe2\x82\xe2", 0xe2, 2}, {"\u0158", 'X', 0}, {"\u0161", 'a', 0},
		{"\ufffd", 0xef, 1}, {"\ufffd", 0xff, 0}, {"\xff", 0xef, 0}, {"\xff", 0xbd, 0},
		{strings.Repeat("X", 1<<20), 'X', 1 << 20}, {strings.Repeat("X", 1<<20), 'Y', 0}, {strings.Repeat("\u00e9", 1<<20), 0xa9, 1 << 20},
	} {
		checkCountByte(t, c.s, c.b, c.want)
	}
}

func TestCountByteEveryByte(t *testing.T) {
	all := make([]byte, 256)
	for i := range all {
		all[i] = byte(i)
	}
	for i := range 256 {
		b := byte(i)
		alone := string(all[i : i+1])
		checkCountByte(t, string(all), b, 1)
		checkCountByte(t, string(all)+"abc"+string(all), b, 2+strings.Count("abc", alone))
		checkCountByte(t, alone, b, 1)
		checkCountByte(t, strings.Repeat(alone, 100), b, 100)
		checkCountByte(t, alone, b+1, 0)
		checkCountByte(t, alone, b-1, 0)
		checkCountByte(t, alone, b^0x80, 0)
		for _, s := range mixedStrings() {
			checkCountByte(t, s, b, countByBytes(s, b))
		}
	}
}

func TestReplaceVar(t *testing.T) {
	for _, c := range []struct {
		s    string
		name byte
		by   string
		want string
	}{
		{"aXbX", 'X', "YX", "aYXbYX"},
		{"", 'X', "a", ""}, {"", 'X', "", ""},
		// It does not occur.
		{"abc", 'X', "c", "abc"}, {"YZ", 'X', "c", "YZ"}, {"aYb", 'Z', "", "aYb"}, {"x", 'X', "c", "x"},
		// Once, often, next to itself and at both ends.
		{"X", 'X', "a", "a"}, {"aXb", 'X', "c", "acb"}, {"Xab", 'X', "cc", "ccab"}, {"abX", 'X', "cc", "abcc"},
		{"XX", 'X', "ab", "abab"}, {"aXXb", 'X', "c", "accb"}, {"XaX", 'X', "b", "bab"}, {"XXX", 'X', "abc", "abcabcabc"},
		{"YaYYbY", 'Y', "cX", "cXacXcXbcX"}, {"ZZZZZZZZZZZZ", 'Z', "ab", "abababababababababababab"},
		// The replacement is empty, the variable itself, or holds it or other variables.
		{"aXb", 'X', "", "ab"}, {"XX", 'X', "", ""}, {"XaXXbX", 'X', "", "ab"}, {"X", 'X', "X", "X"}, {"aXXb", 'X', "X", "aXXb"},
		{"X", 'X', "XX", "XX"}, {"aXb", 'X', "aX", "aaXb"}, {"XX", 'X', "Xa", "XaXa"}, {"XX", 'X', "aXb", "aXbaXb"},
		{"XY", 'X', "Y", "YY"}, {"XY", 'X', "YZ", "YZY"}, {"XYX", 'Y', "XX", "XXXX"}, {"XYZ", 'Z', "ZYX", "XYZYX"},
		// The byte is no variable.
		{"abc", 'b', "X", "aXc"}, {"aXa", 'a', "", "X"}, {"aa", 'a', "aa", "aaaa"}, {"X#Y", '#', "a", "XaY"}, {"##", '#', "#a", "#a#a"},
		{"X#Y", 'X', "#", "##Y"}, {"a b", ' ', "", "ab"}, {"X\nY", '\n', ";", "X;Y"}, {"\x00X", 0, "a", "aX"}, {"X", 0, "a", "X"}, {"xX", 'x', "y", "yX"},
		// Bytes of 0x80 and more are replaced,
		{"a\xffb", 0xff, "X", "aXb"}, {"\xff\xff", 0xff, "\xff\xfe", "\xff\xfe\xff\xfe"}, {"\x80", 0x80, "", ""}, {"a\xffb", 0xfe, "X", "a\xffb"},
		{"\u00e9", 0xc3, "a", "a\xa9"}, {"\u00e9", 0xa9, "a", "\xc3a"}, {"\u00e9", 0xe9, "a", "\u00e9"}, {"\u00ff", 0xff, "a", "\u00ff"},
		{"\u20ac\u20ac", 0x82, "", "\xe2\xac\xe2\xac"}, {"\xc3X", 'X', "\xa9", "\u00e9"}, {"\ufffd", 0xff, "a", "\ufffd"}, {"\u00c3", 0xc3, "b", "b\x83"},
		// or stay as they are.
		{"\xffX\xff", 'X', "a", "\xffa\xff"}, {"\u00e9X\u20ac", 'X', "b", "\u00e9b\u20ac"}, {"\xe2\x82X", 'X', "a", "\xe2\x82a"}, {"X\xe2\x82", 'X', "a", "a\xe2\x82"},
		{"\xc3", 'X', "a", "\xc3"}, {"\xf0\x9fXX\x98", 'X', "", "\xf0\x9f\x98"}, {"\u0158X", 'X', "a", "\u0158a"}, {"\u0161a", 'a', "X", "\u0161X"}, {"\xffXY", 'Y', "\xfe", "\xffX\xfe"},
	} {
		checkReplace(t, c.s, c.name, c.by, c.want)
	}
}

func TestReplaceVarEveryByte(t *testing.T) {
	for i := range 256 {
		name := byte(i)
		for _, s := range mixedStrings() {
			for _, by := range []string{"", "a", "XY", "\xff", string([]byte{name}), string([]byte{name, name}), "\u00e9"} {
				checkReplace(t, s, name, by, replacedByBytes(s, name, by))
			}
		}
	}
}

func TestReplaceVarEveryShortString(t *testing.T) {
	for _, s := range stringsOver("aXY#\x80", 5) {
		for _, name := range []byte("aXYZ#\x80") {
			for _, by := range []string{"", "a", "X", "bX", "YXY", "\x80"} {
				checkReplace(t, s, name, by, replacedByBytes(s, name, by))
			}
		}
	}
}

func TestReplaceVarLimit(t *testing.T) {
	letters := func(n int) string { return strings.Repeat("a", n) }
	for _, c := range []struct {
		name  string
		s, by string
		size  int
	}{
		{"it does not occur", letters(maxText), "b", maxText},
		{"it does not occur, too long", letters(maxText + 1), "b", 0},
		{"it does not occur, long replacement", "ab", letters(2 * maxText), 2},
		{"empty string, long replacement", "", letters(2 * maxText), 0},
		{"one", "X", letters(maxText), maxText},
		{"one, too long", "X", letters(maxText + 1), 0},
		{"by itself", letters(maxText-1) + "X", "X", maxText},
		{"by itself, too long", letters(maxText) + "X", "X", 0},
		{"first", "X" + letters(maxText-3), "bbb", maxText},
		{"first, too long", "X" + letters(maxText-2), "bbb", 0},
		{"last", letters(maxText-3) + "X", "bXb", maxText},
		{"last, too long", letters(maxText-2) + "X", "bXb", 0},
		{"two", "XX", letters(maxText / 2), maxText},
		{"two, too long", "XXb", letters(maxText / 2), 0},
		{"many", strings.Repeat("X", maxText/4), "abXY", maxText},
		{"many, too long", strings.Repeat("X", maxText/4) + "a", "abXY", 0},
		{"shorter", letters(maxText) + "X", "", maxText},
		{"shorter, still too long", letters(maxText+1) + "X", "", 0},
		{"much shorter", strings.Repeat("X", 4*maxText) + "b", "", 1},
		{"all removed", strings.Repeat("X", 4*maxText), "", 0},
		{"runes", strings.Repeat("\u00e9", maxText/2-1) + "X", "\xff\xff", maxText},
		{"runes, too long", strings.Repeat("\u00e9", maxText/2-1) + "X", "\xff\xff\xff", 0},
		{"long and many", strings.Repeat("X", maxText), letters(maxText), 0},
	} {
		want := ""
		if c.size > 0 {
			want = strings.ReplaceAll(c.s, "X", c.by)
		}
		got := impl.ReplaceVar(c.s, 'X', c.by)
		if len(got) != c.size || got != want {
			t.Errorf("%s: ReplaceVar has %d bytes, want %d", c.name, len(got), c.size)
		}
	}
}

func TestReplaceVarLimitOfOtherBytes(t *testing.T) {
	for _, name := range []byte{'a', '#', 0, 0x80, 0xff} {
		s := string([]byte{name, 'b', name})
		by := strings.Repeat("c", maxText/2)
		checkReplace(t, s, name, by, "")
		checkReplace(t, s, name, by[1:], by[1:]+"b"+by[1:])
		checkReplace(t, s[:2], name, by+by, "")
		checkReplace(t, s[:2], name, by+by[1:], by+by[1:]+"b")
	}
}

func TestIsValues(t *testing.T) {
	longest := strings.Repeat("cab", 10)
	words := []string{"", "a", "b", "c", "abc", "ccc", longest, strings.Repeat("a", 30), strings.Repeat("c", 30)}
	for _, x := range words {
		for _, y := range words {
			for _, z := range words {
				checkIsValues(t, impl.Values{X: x, Y: y, Z: z}, true)
			}
		}
	}
}

func TestIsValuesOneThatIsNoWord(t *testing.T) {
	others := append(slices.Concat(notWords, mixedStrings()), "X", "Y", "Z", "aX", "XYZ")
	for _, other := range others {
		for _, word := range []string{"", "a", "abc", strings.Repeat("b", 30)} {
			checkIsValues(t, impl.Values{X: other, Y: word, Z: word}, false)
			checkIsValues(t, impl.Values{X: word, Y: other, Z: word}, false)
			checkIsValues(t, impl.Values{X: word, Y: word, Z: other}, false)
			checkIsValues(t, impl.Values{X: other, Y: other, Z: word}, false)
			checkIsValues(t, impl.Values{X: other, Y: word, Z: other}, false)
			checkIsValues(t, impl.Values{X: word, Y: other, Z: other}, false)
		}
		checkIsValues(t, impl.Values{X: other, Y: other, Z: other}, false)
	}
}

func TestIsValuesEveryByteAndLength(t *testing.T) {
	for i := range 256 {
		one := string([]byte{byte(i)})
		want := i >= 'a' && i <= 'c'
		checkIsValues(t, impl.Values{X: one}, want)
		checkIsValues(t, impl.Values{Y: one}, want)
		checkIsValues(t, impl.Values{Z: one}, want)
	}
	for n := range 100 {
		s := strings.Repeat("b", n)
		checkIsValues(t, impl.Values{X: s}, n <= 30)
		checkIsValues(t, impl.Values{Y: s}, n <= 30)
		checkIsValues(t, impl.Values{Z: s}, n <= 30)
		checkIsValues(t, impl.Values{X: s, Y: s, Z: s}, n <= 30)
	}
}

func TestValueOf(t *testing.T) {
	for _, v := range valuesForTests() {
		for name, want := range map[byte]string{'X': v.X, 'Y': v.Y, 'Z': v.Z} {
			if got := impl.ValueOf(v, name); got != want {
				t.Errorf("ValueOf(%q, %q) = %q", v, name, got)
			}
		}
		for _, b := range otherBytes() {
			if got := impl.ValueOf(v, b); got != "" {
				t.Errorf("ValueOf(%q, %#x) = %q", v, b, got)
			}
		}
	}
}

func TestWithValue(t *testing.T) {
	for _, v := range valuesForTests() {
		before := v
		for _, s := range []string{"", "a", "cba", "X", "Z", "\xff", "\u00e9", strings.Repeat("b", 30), strings.Repeat("b", 31), strings.Repeat("c", 2*maxText)} {
			for name, want := range map[byte]impl.Values{
				'X': {X: s, Y: v.Y, Z: v.Z},
				'Y': {X: v.X, Y: s, Z: v.Z},
				'Z': {X: v.X, Y: v.Y, Z: s},
			} {
				got := impl.WithValue(v, name, s)
				if got != want || impl.ValueOf(got, name) != s {
					t.Errorf("WithValue(%q, %q, %.40q) = %.90q", v, name, s, got)
				}
			}
			for _, b := range otherBytes() {
				if got := impl.WithValue(v, b, s); got != v {
					t.Errorf("WithValue(%q, %#x, %.40q) = %.90q", v, b, s, got)
				}
			}
			if v != before {
				t.Fatalf("WithValue changed its argument to %q", v)
			}
		}
	}
}

func TestApplyValues(t *testing.T) {
	v := impl.Values{X: "b", Z: "c"}
	full := impl.Values{X: "ab", Y: "c", Z: "bca"}
	for _, c := range []struct {
		s    string
		v    impl.Values
		want string
	}{
		{"aXYZ", v, "abc"}, {"", v, ""}, {"", full, ""}, {"a", full, "a"}, {"abc", full, "abc"}, {"cba", impl.Values{}, "cba"},
		{"X", full, "ab"}, {"Y", full, "c"}, {"Z", full, "bca"}, {"aXa", full, "aaba"}, {"XX", full, "abab"}, {"XaX", full, "abaab"},
		{"XY", full, "abc"}, {"YX", full, "cab"}, {"XYZ", full, "abcbca"}, {"ZYX", full, "bcacab"}, {"ZZYYXX", full, "bcabcaccabab"},
		{"aXbYcZ", full, "aabbccbca"}, {"XYXYXYXYXYXY", full, "abcabcabcabcabcabc"},
		// Words that are empty.
		{"Y", v, ""}, {"YY", v, ""}, {"aYb", v, "ab"}, {"YaY", v, "a"}, {"XYZ", impl.Values{}, ""}, {"aXbYcZa", impl.Values{}, "abca"}, {"ZYX", v, "cb"},
		// What a word holds is not replaced again.
		{"X", impl.Values{X: "Y", Y: "a"}, "Y"}, {"XY", impl.Values{X: "Y", Y: "X"}, "YX"}, {"YX", impl.Values{X: "Y", Y: "X"}, "XY"},
		{"XYZ", impl.Values{X: "Y", Y: "Z", Z: "X"}, "YZX"}, {"ZYX", impl.Values{X: "Y", Y: "Z", Z: "X"}, "XZY"}, {"X", impl.Values{X: "XX"}, "XX"},
		{"aXbX", impl.Values{X: "YX"}, "aYXbYX"}, {"XYZ", impl.Values{X: "ZZ", Y: "XX", Z: "YY"}, "ZZXXYY"}, {"Z", impl.Values{X: "a", Y: "b", Z: "XYZ"}, "XYZ"},
		// Strings that are no terms.
		{"#", full, "#"}, {"X#Y", full, "ab#c"}, {"##X##", full, "##ab##"}, {"x", full, "x"}, {"xXyYzZ", full, "xabyczbca"}, {"X=Y\n", full, "ab=c\n"},
		{"\xff", full, "\xff"}, {"\xffX\xff", full, "\xffab\xff"}, {"\u00e9X\u20acY", full, "\u00e9ab\u20acc"}, {"\xe2\x82X\xe2", full, "\xe2\x82ab\xe2"},
		{"X\xe2\x82", full, "ab\xe2\x82"}, {"\u0158X", full, "\u0158ab"}, {"\u0159\u015a", full, "\u0159\u015a"}, {"\ufffdZ", full, "\ufffdbca"}, {"\x00X", full, "\x00ab"},
		{"Xd", full, "abd"}, {"XXXXXXXXXXXXX", full, "ababababababababababababab"}, {"\xc3X", impl.Values{X: "\xa9"}, "\u00e9"},
	} {
		checkApply(t, c.s, c.v, c.want)
	}
}

func TestApplyValuesEveryShortString(t *testing.T) {
	for _, s := range append(stringsOver("aXYZ#\x80", 4), mixedStrings()...) {
		for _, v := range valuesForTests() {
			checkApply(t, s, v, appliedByBytes(s, v))
		}
	}
}

func TestApplyValuesLimit(t *testing.T) {
	letters := func(n int) string { return strings.Repeat("a", n) }
	for _, c := range []struct {
		name string
		s    string
		v    impl.Values
		size int
	}{
		{"no variables", letters(maxText), impl.Values{X: "a"}, maxText},
		{"no variables, too long", letters(maxText + 1), impl.Values{X: "a"}, 0},
		{"variables that do not occur", "aYb", impl.Values{X: letters(2 * maxText), Y: "c", Z: letters(2 * maxText)}, 3},
		{"one", "Z", impl.Values{Z: letters(maxText)}, maxText},
		{"one, too long", "Z", impl.Values{Z: letters(maxText + 1)}, 0},
		{"two", "XX", impl.Values{X: letters(maxText / 2)}, maxText},
		{"two, too long", "XbX", impl.Values{X: letters(maxText / 2)}, 0},
		{"three", "ZYX", impl.Values{X: letters(maxText / 2), Y: letters(maxText/2 - 1), Z: "b"}, maxText},
		{"three, too long", "ZYX", impl.Values{X: letters(maxText / 2), Y: letters(maxText/2 - 1), Z: "bb"}, 0},
		{"first", "X" + letters(maxText-30), impl.Values{X: letters(30)}, maxText},
		{"first, too long", "X" + letters(maxText-29), impl.Values{X: letters(30)}, 0},
		{"last", letters(maxText-30) + "Y", impl.Values{Y: letters(30)}, maxText},
		{"last, too long", letters(maxText-29) + "Y", impl.Values{Y: letters(30)}, 0},
		{"many", strings.Repeat("XY", maxText/4), impl.Values{X: "a", Y: "YYY"}, maxText},
		{"many, too long", strings.Repeat("XY", maxText/4) + "b", impl.Values{X: "a", Y: "YYY"}, 0},
		{"shorter", letters(maxText) + "XYZ", impl.Values{}, maxText},
		{"shorter, still too long", letters(maxText) + "XYZ", impl.Values{Y: "b"}, 0},
		{"one longer, others shorter", "X" + strings.Repeat("Z", 2*maxText), impl.Values{X: letters(maxText)}, maxText},
		{"one longer, others shorter, too long", "X" + strings.Repeat("Z", 2*maxText) + "b", impl.Values{X: letters(maxText)}, 0},
		{"all removed", strings.Repeat("XYZ", maxText), impl.Values{}, 0},
		{"runes", strings.Repeat("\u00e9", maxText/2-1) + "X", impl.Values{X: "\xff\xff"}, maxText},
		{"runes, too long", strings.Repeat("\u00e9", maxText/2-1) + "X", impl.Values{X: "\xff\xff\xff"}, 0},
		{"long and many", strings.Repeat("XYZ", maxText), impl.Values{X: letters(maxText), Y: letters(maxText), Z: letters(maxText)}, 0},
	} {
		want := ""
		if c.size > 0 {
			want = appliedByBytes(c.s, c.v)
		}
		got := impl.ApplyValues(c.s, c.v)
		if len(got) != c.size || got != want {
			t.Errorf("%s: ApplyValues has %d bytes, want %d", c.name, len(got), c.size)
		}
	}
}

func TestFormatValues(t *testing.T) {
	v := impl.Values{X: "b", Z: "c"}
	full := impl.Values{X: "ab", Y: "c", Z: "bca"}
	for _, c := range []struct {
		v           impl.Values
		names, want string
	}{
		{v, "YX", "X=b Y="},
		{full, "", ""}, {full, "abc", ""}, {full, "#", ""}, {full, "xyz", ""}, {full, " ", ""}, {full, "\xff\u0158", ""},
		{full, "X", "X=ab"}, {full, "Y", "Y=c"}, {full, "Z", "Z=bca"}, {full, "ZZZ", "Z=bca"}, {full, "XX", "X=ab"},
		{full, "XY", "X=ab Y=c"}, {full, "YX", "X=ab Y=c"}, {full, "ZX", "X=ab Z=bca"}, {full, "XZXZ", "X=ab Z=bca"}, {full, "ZYY", "Y=c Z=bca"},
		{full, "XYZ", "X=ab Y=c Z=bca"}, {full, "XZY", "X=ab Y=c Z=bca"}, {full, "YXZ", "X=ab Y=c Z=bca"}, {full, "YZX", "X=ab Y=c Z=bca"},
		{full, "ZXY", "X=ab Y=c Z=bca"}, {full, "ZYX", "X=ab Y=c Z=bca"}, {full, "ZZYXYZ", "X=ab Y=c Z=bca"},
		{full, "aXb", "X=ab"}, {full, "Z#X", "X=ab Z=bca"}, {full, "Y, X", "X=ab Y=c"}, {full, "\xffZ\xff", "Z=bca"}, {full, "\u00e9Y\u20acX\xe2\x82", "X=ab Y=c"},
		{full, "X=ab Y=c", "X=ab Y=c"}, {full, "aaaaaaaaaaaaaaaaaaaaY", "Y=c"},
		{impl.Values{}, "", ""}, {impl.Values{}, "X", "X="}, {impl.Values{}, "YZ", "Y= Z="}, {impl.Values{}, "XYZ", "X= Y= Z="},
		{impl.Values{Y: "a"}, "XYZ", "X= Y=a Z="}, {impl.Values{Y: "a"}, "ZX", "X= Z="}, {impl.Values{Z: "a"}, "Y", "Y="},
		{impl.Values{X: "Y", Y: "Z=a", Z: "X Y"}, "XYZ", "X=Y Y=Z=a Z=X Y"}, {impl.Values{X: "\xff", Y: "\u00e9"}, "XY", "X=\xff Y=\u00e9"},
	} {
		checkFormatValues(t, c.v, c.names, c.want)
	}
}

func TestFormatValuesEveryShortString(t *testing.T) {
	for _, names := range append(stringsOver("aXYZ#\x80", 4), mixedStrings()...) {
		for _, v := range valuesForTests() {
			checkFormatValues(t, v, names, formattedByBytes(v, names))
		}
	}
}

// Only the functions that chapter 1 names have a limit.
func TestFormatValuesHasNoLimit(t *testing.T) {
	long := strings.Repeat("a", maxText)
	v := impl.Values{X: long, Y: "b" + long, Z: long}
	checkFormatValues(t, v, "X", "X="+long)
	checkFormatValues(t, v, "Y", "Y=b"+long)
	checkFormatValues(t, v, "ZYX", "X="+long+" Y=b"+long+" Z="+long)
	checkFormatValues(t, impl.Values{X: "c"}, strings.Repeat("X", 2*maxText), "X=c")
}

// checkPromise replaces variables by their words, one alone and all in every order.
func checkPromise(t *testing.T, term string, v impl.Values) {
	t.Helper()
	word := impl.ApplyValues(term, v)
	if word != appliedByBytes(term, v) {
		t.Errorf("ApplyValues(%q, %q) = %q", term, v, word)
	}
	for _, order := range []string{"XYZ", "XZY", "YXZ", "YZX", "ZXY", "ZYX"} {
		s := term
		for i := range len(order) {
			s = impl.ReplaceVar(s, order[i], impl.ValueOf(v, order[i]))
			if got := impl.ApplyValues(s, v); got != word {
				t.Errorf("the word of %q with %q is %q, but %q after a replacement gives %q", term, v, word, s, got)
			}
			if impl.CountByte(s, order[i]) != 0 {
				t.Errorf("%q still has the variable %q", s, order[i])
			}
		}
		if s != word {
			t.Errorf("the word of %q with %q is %q, but all replacements give %q", term, v, word, s)
		}
	}
}

func TestReplacingAVariableByItsWordKeepsTheWord(t *testing.T) {
	for _, term := range stringsOver("abXYZ", 4) {
		for _, v := range valuesForTests() {
			if impl.IsValues(v) {
				checkPromise(t, term, v)
			}
		}
	}
}

func randomString(random *rand.Rand, parts []string, n int) string {
	var list []string
	for range n {
		list = append(list, parts[random.IntN(len(parts))])
	}
	return strings.Join(list, "")
}

func TestReplacingAVariableByItsWordInLongTerms(t *testing.T) {
	random := rand.New(rand.NewPCG(8, 1))
	letters, signs := strings.Split("abc", ""), strings.Split("abcXYZ", "")
	for range 3000 {
		term := randomString(random, signs, random.IntN(13))
		v := impl.Values{
			X: randomString(random, letters, random.IntN(31)),
			Y: randomString(random, letters, random.IntN(31)),
			Z: randomString(random, letters, random.IntN(31)),
		}
		if !impl.IsTerm(term) || !impl.IsValues(v) {
			t.Fatalf("%q is no term or %q are no values", term, v)
		}
		checkPromise(t, term, v)
	}
	longest := strings.Repeat("c", 30)
	checkPromise(t, strings.Repeat("XYZ", 4), impl.Values{X: longest, Y: longest, Z: longest})
}

// checkTermFunctions compares all results for one string with the second ways.
func checkTermFunctions(t *testing.T, s string, v impl.Values, b byte, by string) {
	t.Helper()
	checkTerm(t, s, isTermByBytes(s))
	checkVars(t, s, varsByBytes(s))
	checkCountByte(t, s, b, countByBytes(s, b))
	checkReplace(t, s, b, by, replacedByBytes(s, b, by))
	checkApply(t, s, v, appliedByBytes(s, v))
	checkFormatValues(t, v, s, formattedByBytes(v, s))
	isWord := func(s string) bool { return len(s) <= 30 && strings.Trim(s, "abc") == "" }
	checkIsValues(t, v, isWord(v.X) && isWord(v.Y) && isWord(v.Z))
	words := tableOf(v)
	if got := impl.ValueOf(v, b); got != words[b] {
		t.Errorf("ValueOf(%q, %#x) = %q", v, b, got)
	}
	if _, isVariable := words[b]; isVariable {
		words[b] = by
	}
	if got := impl.WithValue(v, b, by); got != (impl.Values{X: words['X'], Y: words['Y'], Z: words['Z']}) {
		t.Errorf("WithValue(%q, %#x, %q) = %q", v, b, by, got)
	}
}

func TestTermFunctionsOfRandomStrings(t *testing.T) {
	random := rand.New(rand.NewPCG(8, 2))
	signs := strings.Split("abcXYZ", "")
	mixed := slices.Concat(signs, signs, signs, otherStrings)
	letters := strings.Split("abc", "")
	for range 30000 {
		parts := [][]string{letters, signs, mixed}[random.IntN(3)]
		next := func(n int) string { return randomString(random, parts, random.IntN(n)) }
		s, by, v := next(16), next(5), impl.Values{X: next(34), Y: next(4), Z: next(34)}
		b := byte(random.IntN(256))
		if s != "" && random.IntN(4) > 0 {
			b = s[random.IntN(len(s))]
		}
		checkTermFunctions(t, s, v, b, by)
	}
}

func TestTermFunctionsOfVeryLongStrings(t *testing.T) {
	withoutTakingLong(t, func() {
		for _, s := range []string{strings.Repeat("X", 1<<23), strings.Repeat("aY\xff", 1<<22), strings.Repeat("\u00e9", 1<<22)} {
			v := impl.Values{X: s, Y: s, Z: s}
			checkTerm(t, s, false)
			checkVars(t, s, varsByBytes(s[:6]))
			checkIsValues(t, v, false)
			checkCountByte(t, s, 'X', countByBytes(s, 'X'))
			checkReplace(t, s, 'X', s, "")
			checkReplace(t, s, 'Z', "a", "")
			checkApply(t, s, v, "")
			checkFormatValues(t, v, s, formattedByBytes(v, s))
		}
	})
}
