package tests

import (
	"hash/fnv"
	"math"
	"slices"
	"strconv"
	"strings"
	"testing"
	"unicode/utf8"
	"unsafe"

	"loop.example/g00797/impl"
)

// notSigns lies around every limit of the characters.
func notSigns() []int {
	return []int{-1, -65, -1114111, math.MinInt, 55296, 55297, 56319, 56320, 57343,
		1114112, 1114113, 2097152, 1 << 31, 1 << 32, 1<<32 + 97, math.MaxInt}
}

// encodings holds the first and the last character of every length, with the
// bytes written out, and the characters on both sides of the surrogates.
func encodings() map[int]string {
	return map[int]string{
		0: "\x00", 97: "a", 127: "\x7f",
		128: "\xc2\x80", 233: "\xc3\xa9", 2047: "\xdf\xbf",
		2048: "\xe0\xa0\x80", 8364: "\xe2\x82\xac", 55295: "\xed\x9f\xbf",
		57344: "\xee\x80\x80", 65533: "\xef\xbf\xbd", 65535: "\xef\xbf\xbf",
		65536: "\xf0\x90\x80\x80", 128512: "\xf0\x9f\x98\x80", 1114111: "\xf4\x8f\xbf\xbf",
	}
}

// badStrings are the encodings of no text.
func badStrings() []string {
	return []string{
		"\xc0\x80", "\xc1\xbf", "\xe0\x80\x80", "\xe0\x9f\xbf", "\xf0\x80\x80\x80", "\xf0\x8f\xbf\xbf", // overlong
		"\xed\xa0\x80", "\xed\xaf\xbf", "\xed\xb0\x80", "\xed\xbf\xbf", "\xed\xa0\xbd\xed\xb8\x80", // surrogates
		"\xc2", "\xe2", "\xe2\x82", "\xf0", "\xf0\x9f", "\xf0\x9f\x98", // cut off at the end
		"\xc2a", "\xe2\x82a", "\xf0\x9f\x98a", "\xc2\xc2\x80", "\xe2\x82\xe2\x82\xac", // cut off before another
		"\x80", "\xbf", "a\x80", "\x80a", "\xc3\xa9\xa9", "\xe2\x82\xac\xac", // stray
		"\xf4\x90\x80\x80", "\xf5\x80\x80\x80", "\xf7\xbf\xbf\xbf", // beyond MaxSign
		"\xf8\x88\x80\x80\x80", "\xfc\x84\x80\x80\x80\x80", "\xfe", "\xff", "\xff\xff\xff", // no first bytes
		"\xef\xbf\xbd\xff", "\xff\xef\xbf\xbd", // beside a true 65533
	}
}

// spared returns a copy of l with spare capacity, and a check that neither its
// elements nor the capacity behind them have been written.
func spared(l []int) ([]int, func() bool) {
	whole := append(slices.Clone(l), 101, 102, 103)
	kept := slices.Clone(whole)
	return whole[:len(l)], func() bool { return slices.Equal(whole, kept) }
}

// within reports whether part lies in the memory of s.
func within(part string, s string) bool {
	if part == "" || s == "" {
		return false
	}
	from := uintptr(unsafe.Pointer(unsafe.StringData(s)))
	at := uintptr(unsafe.Pointer(unsafe.StringData(part)))
	return at >= from && at < from+uintptr(len(s))
}

func TestP13SignConstants(t *testing.T) {
	if impl.MaxSign != 1114111 || impl.MaxNum != 1000000000 {
		t.Error("MaxSign or MaxNum differs from the document")
	}
}

func TestP13SignOkAtItsLimits(t *testing.T) {
	for n := range encodings() {
		if !impl.SignOk(n) {
			t.Errorf("SignOk(%d) is false", n)
		}
	}
	for _, n := range notSigns() {
		if impl.SignOk(n) {
			t.Errorf("SignOk(%d) is true", n)
		}
	}
}

func TestP13SignOkOfAll(t *testing.T) {
	for n := -2000; n <= impl.MaxSign+2000; n++ {
		if impl.SignOk(n) != utf8.ValidRune(rune(n)) {
			t.Fatalf("SignOk(%d) is %v", n, impl.SignOk(n))
		}
	}
}

func TestP13SignsOk(t *testing.T) {
	good := []int{0, 97, 55295, 57344, impl.MaxSign}
	if !impl.SignsOk(nil) || !impl.SignsOk([]int{}) || !impl.SignsOk(good) {
		t.Error("a text is refused")
	}
	for _, n := range notSigns() {
		for at := range len(good) + 1 {
			if l := slices.Insert(slices.Clone(good), at, n); impl.SignsOk(l) {
				t.Errorf("SignsOk(%v) is true", l)
			}
		}
	}
}

func TestP13BytesOfEveryLength(t *testing.T) {
	var l []int
	s := ""
	for n, want := range encodings() {
		if got := impl.Bytes([]int{n}); got != want {
			t.Errorf("Bytes of %d: %q, not %q", n, got, want)
		}
		l, s = append(l, n), s+want
	}
	if got := impl.Bytes(l); got != s {
		t.Errorf("Bytes of %v: %q, not %q", l, got, s)
	}
	if impl.Bytes(nil) != "" || impl.Bytes([]int{}) != "" {
		t.Error("Bytes of the empty text is not empty")
	}
}

func TestP13BytesOfNoText(t *testing.T) {
	for _, n := range notSigns() {
		for _, l := range [][]int{{n}, {n, 97}, {97, n}, {97, n, 8364}, {n, n}} {
			if got := impl.Bytes(l); got != "" {
				t.Errorf("Bytes of %v: %q", l, got)
			}
		}
	}
}

func TestP12BytesAndSignsOfAllCharacters(t *testing.T) {
	for n := range impl.MaxSign + 1 {
		if n >= 55296 && n <= 57343 {
			continue
		}
		s := impl.Bytes([]int{n})
		if s != string(rune(n)) {
			t.Fatalf("Bytes of %d: %q", n, s)
		}
		if l, ok := impl.Signs(s); !ok || len(l) != 1 || l[0] != n {
			t.Fatalf("Signs of Bytes of %d: %v %v", n, l, ok)
		}
	}
}

func TestP12TextsAreRecovered(t *testing.T) {
	texts := [][]int{nil, {0}, {0, 0, 0}, {10, 32, 127}, {65533}, {65533, 65533, 97}, {97, 233, 8364, 128512, 0}}
	for a := range encodings() {
		for b := range encodings() {
			texts = append(texts, []int{a, b}, []int{b, a, b})
		}
	}
	for _, l := range texts {
		got, ok := impl.Signs(impl.Bytes(l))
		if !ok || !slices.Equal(got, l) {
			t.Errorf("Signs of Bytes of %v: %v %v", l, got, ok)
		}
	}
}

func TestP13SignsOfNoEncoding(t *testing.T) {
	for _, bad := range badStrings() {
		for _, s := range []string{bad, "a" + bad, bad + "\x00", bad + " " + bad, "\xe2\x82\xac" + bad, bad + "\xf0\x9f\x98\x80"} {
			if l, ok := impl.Signs(s); ok || len(l) != 0 {
				t.Errorf("Signs(%q): %v %v", s, l, ok)
			}
		}
	}
}

// checkSigns compares Signs with what the standard library reads.
func checkSigns(t *testing.T, s string) {
	t.Helper()
	l, ok := impl.Signs(s)
	var want []int
	if utf8.ValidString(s) {
		for _, r := range s {
			want = append(want, int(r))
		}
	}
	if ok != utf8.ValidString(s) || !slices.Equal(l, want) {
		t.Fatalf("Signs(%q): %v %v", s, l, ok)
	}
	if ok && impl.Bytes(l) != s {
		t.Fatalf("Bytes of Signs(%q): %q", s, impl.Bytes(l))
	}
}

func TestP12SignsOfShortStrings(t *testing.T) {
	checkSigns(t, "")
	for a := range 256 {
		checkSigns(t, string([]byte{byte(a)}))
		for b := range 256 {
			checkSigns(t, string([]byte{byte(a), byte(b)}))
		}
	}
	edges := []byte{0x00, 0x61, 0x7f, 0x80, 0x8f, 0x90, 0x9f, 0xa0, 0xbf, 0xc0, 0xc1, 0xc2, 0xdf,
		0xe0, 0xe1, 0xec, 0xed, 0xee, 0xef, 0xf0, 0xf1, 0xf3, 0xf4, 0xf5, 0xf8, 0xff}
	for _, a := range edges {
		for _, b := range edges {
			for _, c := range edges {
				checkSigns(t, string([]byte{a, b, c}))
				for _, d := range edges {
					checkSigns(t, string([]byte{a, b, c, d}))
				}
			}
		}
	}
}

func TestP13SignsSame(t *testing.T) {
	same := [][2][]int{{nil, nil}, {nil, {}}, {{}, nil}, {{}, {}}, {{1}, {1}}, {{1, 2, 3}, {1, 2, 3}}, {{-1, 55296}, {-1, 55296}}}
	for _, p := range same {
		if !impl.SignsSame(p[0], p[1]) {
			t.Errorf("%v and %v differ", p[0], p[1])
		}
	}
	differ := [][2][]int{{nil, {0}}, {{1}, {2}}, {{1}, {1, 1}}, {{1, 2}, {2, 1}}, {{1, 2, 3}, {1, 2, 4}},
		{{0, 2}, {1, 2}}, {{97}, {97 + 1<<32}}, {{-1}, {1}}, {{0}, {0, 0}}}
	for _, p := range differ {
		if impl.SignsSame(p[0], p[1]) || impl.SignsSame(p[1], p[0]) {
			t.Errorf("%v and %v are equal", p[0], p[1])
		}
	}
	l := []int{5, 6, 7}
	if !impl.SignsSame(l, l) || impl.SignsSame(l, l[:2]) || impl.SignsSame(l[1:], l[:2]) {
		t.Error("parts of one slice")
	}
}

// someNumbers holds the small numbers and those around the powers of ten.
func someNumbers() []int {
	var l []int
	for n := range 12000 {
		l = append(l, n)
	}
	for p := 10; p <= impl.MaxNum; p *= 10 {
		l = append(l, p-1, p)
		if p < impl.MaxNum {
			l = append(l, p+1, 7*p)
		}
	}
	return append(l, 123456789, 987654321, impl.MaxNum-1, impl.MaxNum)
}

func TestP12NumbersAreRecovered(t *testing.T) {
	for _, n := range someNumbers() {
		s := impl.NumText(n)
		if s != strconv.Itoa(n) {
			t.Fatalf("NumText(%d): %q", n, s)
		}
		if got, ok := impl.TextNum(s); !ok || got != n {
			t.Fatalf("TextNum(%q): %d %v", s, got, ok)
		}
	}
}

func TestP13NumTextOutside(t *testing.T) {
	for _, n := range []int{-1, -10, impl.MaxNum + 1, 2 * impl.MaxNum, 1 << 32, 1<<32 + 5, -1 << 32, math.MaxInt, math.MinInt} {
		if got := impl.NumText(n); got != "" {
			t.Errorf("NumText(%d): %q", n, got)
		}
	}
}

func TestP13TextNumOfNoNumeral(t *testing.T) {
	bad := []string{"", "00", "01", "007", "000", "0000000001", "01000000000", "+0", "-0", "+1", "-1", "--1", "+", "-",
		" ", " 1", "1 ", "1 2", "\t1", "1\n", "1\r", "1.", "1.0", ".1", "1e3", "1,000", "1_000", "0x1", "0b1", "0o7", "1a", "a1", "a",
		"\x00", "1\x00", "\x001", "\xff", "1\xff", "/", ":", "1/", "1:", "\xd9\xa1", "\xef\xbc\x91", "\xc2\xb2",
		"1000000001", "1000000010", "2000000000", "9999999999", "10000000000", "4294967296", "4294967301",
		"9223372036854775807", "9223372036854775808", "18446744073709551616", "18446744073709551617", "-9223372036854775808",
		strings.Repeat("1", 100), strings.Repeat("0", 100), strings.Repeat("0", 30) + "1", "NaN", "Inf"}
	for _, s := range bad {
		if n, ok := impl.TextNum(s); ok || n != 0 {
			t.Errorf("TextNum(%q): %d %v", s, n, ok)
		}
	}
}

func TestP12TextNumOfShortStrings(t *testing.T) {
	check := func(s string) {
		n, ok := impl.TextNum(s)
		if ok && impl.NumText(n) != s || !ok && n != 0 {
			t.Fatalf("TextNum(%q): %d %v", s, n, ok)
		}
		digits := s != "" && strings.Trim(s, "0123456789") == "" && (s == "0" || s[0] != '0')
		if ok != digits {
			t.Fatalf("TextNum(%q): %v", s, ok)
		}
	}
	for a := range 256 {
		check(string([]byte{byte(a)}))
		for b := range 256 {
			check(string([]byte{byte(a), byte(b)}))
			check(string([]byte{'1', byte(a), byte(b)}))
		}
	}
}

func TestP13Cut(t *testing.T) {
	cases := []struct {
		s    string
		want []string
	}{
		{"", []string{""}},
		{" ", []string{"", ""}},
		{"   ", []string{"", "", "", ""}},
		{"a", []string{"a"}},
		{"a b", []string{"a", "b"}},
		{"a  b", []string{"a", "", "b"}},
		{" a", []string{"", "a"}},
		{"a ", []string{"a", ""}},
		{"  ab   cd ", []string{"", "", "ab", "", "", "cd", ""}},
		{"a\tb\nc\x00d\xc2\xa0e", []string{"a\tb\nc\x00d\xc2\xa0e"}},
		{"\xe2\x82\xac \xf0\x9f\x98\x80", []string{"\xe2\x82\xac", "\xf0\x9f\x98\x80"}},
		{"\xe2 \x82\xac \xff \xff", []string{"\xe2", "\x82\xac", "\xff", "\xff"}},
		{"\xf0\x9f\x98 x\xc2 ", []string{"\xf0\x9f\x98", "x\xc2", ""}},
	}
	for _, c := range cases {
		if got := impl.Cut(c.s); !slices.Equal(got, c.want) {
			t.Errorf("Cut(%q): %q", c.s, got)
		}
	}
}

func TestP13Lines(t *testing.T) {
	cases := []struct {
		s    string
		want []string
	}{
		{"", nil},
		{"\n", []string{""}},
		{"\n\n", []string{"", ""}},
		{"a", []string{"a"}},
		{"a\n", []string{"a"}},
		{"a\n\n", []string{"a", ""}},
		{"a\nb", []string{"a", "b"}},
		{"a\nb\n", []string{"a", "b"}},
		{"\na", []string{"", "a"}},
		{"a\n\n\nb", []string{"a", "", "", "b"}},
		{" \n ", []string{" ", " "}},
		{"a\r\nb\r", []string{"a\r", "b\r"}},
		{"a\x0b\x0c\xc2\x85\xe2\x80\xa8b", []string{"a\x0b\x0c\xc2\x85\xe2\x80\xa8b"}},
		{"\xe2\n\x82\xac\n\xff", []string{"\xe2", "\x82\xac", "\xff"}},
		{"\xf0\x9f\x98\n", []string{"\xf0\x9f\x98"}},
	}
	for _, c := range cases {
		if got := impl.Lines(c.s); !slices.Equal(got, c.want) {
			t.Errorf("Lines(%q): %q", c.s, got)
		}
	}
}

// TestP13CutAndLinesOfShortStrings visits every string of up to 6 bytes of a small alphabet.
func TestP13CutAndLinesOfShortStrings(t *testing.T) {
	all := []string{""}
	for at := 0; at < len(all); at++ {
		s := all[at]
		if got := impl.Cut(s); !slices.Equal(got, strings.Split(s, " ")) {
			t.Fatalf("Cut(%q): %q", s, got)
		}
		want := strings.Split(s, "\n")
		if want[len(want)-1] == "" {
			want = want[:len(want)-1]
		}
		if got := impl.Lines(s); !slices.Equal(got, want) {
			t.Fatalf("Lines(%q): %q", s, got)
		}
		for _, b := range []string{" ", "\n", "a", "\xe2", "\x82"} {
			if len(s) < 6 {
				all = append(all, s+b)
			}
		}
	}
}

func TestP13Fnv(t *testing.T) {
	known := map[string]int{"": 2166136261, "a": 0xe40c292c, "foobar": 0xbf9cf968, "notes": 2206293706}
	for s, want := range known {
		if got := impl.Fnv(s); got != want {
			t.Errorf("Fnv(%q): %d, not %d", s, got, want)
		}
	}
	check := func(s string) {
		h := fnv.New32a()
		h.Write([]byte(s))
		if got := impl.Fnv(s); got != int(h.Sum32()) {
			t.Fatalf("Fnv(%q): %d, not %d", s, got, h.Sum32())
		}
	}
	for a := range 256 {
		check(string([]byte{byte(a)}))
		check(string([]byte{byte(a), 0, 255, byte(a)}))
	}
	for _, s := range badStrings() {
		check(s)
	}
	check(strings.Repeat("abc\xff", 5000))
}

func TestP13SignArgumentsAreNotChanged(t *testing.T) {
	for _, l := range [][]int{nil, {97}, {97, 233, 8364, 128512}, {97, -1, 98}, {55296}} {
		a, keptA := spared(l)
		b, keptB := spared(l)
		impl.SignsOk(a)
		impl.Bytes(a)
		impl.SignsSame(a, b)
		if !keptA() || !keptB() {
			t.Errorf("an argument %v was changed", l)
		}
	}
}

func TestP13SignResultsShareNothing(t *testing.T) {
	s, whole := "ab cd\nef  gh\n", "whole"
	l := []int{97, 98}
	encoded := impl.Bytes(l)
	l[0] = 99
	if encoded != "ab" {
		t.Error("Bytes depends on its argument after the call")
	}
	first, _ := impl.Signs(s)
	second, _ := impl.Signs(s)
	clear(first[:cap(first)])
	if impl.Bytes(second) != s {
		t.Error("two results of Signs share memory")
	}
	for _, f := range []func(string) []string{impl.Cut, impl.Lines} {
		one, two := f(s), f(s)
		clear(one[:cap(one)])
		if !slices.Equal(two, f(s)) || slices.Equal(one, two) {
			t.Error("two lists of one string share memory")
		}
		for _, part := range append(two, f(whole)...) {
			if within(part, s) || within(part, whole) {
				t.Errorf("%q lies in the memory of the argument", part)
			}
		}
	}
}
