package tests

import (
	"fmt"
	"math/rand"
	"regexp"
	"slices"
	"strconv"
	"strings"
	"testing"

	"loop.example/g00797/impl"
)

// optextCase has the string of an operation written out.
type optextCase struct {
	o    []impl.Part
	text string
}

// onePart are the operations whose normal form has at most one part.
func onePart() []optextCase {
	return []optextCase{
		{nil, "-"},
		{op(), "-"},
		{op(keep(0)), "-"},
		{op(put()), "-"},
		{op(drop(0)), "-"},
		{op(keep(0), put(), drop(0), keep(0)), "-"},
		{op(keep(1)), "k1"},
		{op(keep(9)), "k9"},
		{op(keep(10)), "k10"},
		{op(keep(199)), "k199"},
		{op(keep(200)), "k200"},
		{op(drop(1)), "d1"},
		{op(drop(9)), "d9"},
		{op(drop(10)), "d10"},
		{op(drop(100)), "d100"},
		{op(drop(200)), "d200"},
		{op(put(0)), "p0"},
		{op(put(9)), "p9"},
		{op(put(10)), "p10"},
		{op(put(46)), "p46"},
		{op(put(97)), "p97"},
		{op(put(55295)), "p55295"},
		{op(put(57344)), "p57344"},
		{op(put(1114111)), "p1114111"},
		{op(put(97, 98)), "p97.98"},
		{op(put(0, 0, 0)), "p0.0.0"},
		{op(put(32, 10, 45, 48)), "p32.10.45.48"},
		{op(put(1114111, 57344, 55295, 0)), "p1114111.57344.55295.0"},
	}
}

// moreParts are the operations with several parts, in every order.
func moreParts() []optextCase {
	return []optextCase{
		{op(keep(2), put(97, 98), drop(1)), "k2 p97.98 d1"},
		{op(put(97, 98), keep(2), drop(1)), "p97.98 k2 d1"},
		{op(put(97, 98), drop(1), keep(2)), "p97.98 d1 k2"},
		{op(drop(1), keep(2), put(97, 98)), "d1 k2 p97.98"},
		{op(keep(3), put(97)), "k3 p97"},
		{op(put(97), keep(3)), "p97 k3"},
		{op(keep(3), drop(4)), "k3 d4"},
		{op(drop(4), keep(3)), "d4 k3"},
		{op(put(97), drop(4)), "p97 d4"},
		{op(keep(1), put(97), keep(1), drop(1), keep(1)), "k1 p97 k1 d1 k1"},
		{op(put(97), keep(1), put(97), keep(1), put(97)), "p97 k1 p97 k1 p97"},
		{op(drop(1), keep(1), drop(1), keep(1), drop(1)), "d1 k1 d1 k1 d1"},
		{op(put(0), drop(1), keep(1), put(1114111), drop(198)), "p0 d1 k1 p1114111 d198"},
		{op(keep(100), drop(100)), "k100 d100"},
		{op(drop(199), keep(1)), "d199 k1"},
	}
}

// unnormalized are operations whose string is that of their normal form.
func unnormalized() []optextCase {
	return []optextCase{
		{op(keep(2), drop(1), put(97, 98)), "k2 p97.98 d1"},
		{op(drop(1), put(97, 98), keep(2)), "p97.98 d1 k2"},
		{op(drop(1), put(97)), "p97 d1"},
		{op(keep(1), keep(1)), "k2"},
		{op(drop(1), drop(2)), "d3"},
		{op(put(97), put(98)), "p97.98"},
		{op(put(98), drop(1), put(97), drop(1)), "p98.97 d2"},
		{op(keep(0), keep(1), drop(0), put(), keep(1)), "k2"},
		{op(drop(1), keep(0), put(97)), "p97 d1"},
		{op(put(97), keep(0), put(98), keep(5), put()), "p97.98 k5"},
		{op(keep(100), keep(100)), "k200"},
		{repeated(keep(1), impl.MaxText), "k200"},
		{repeated(drop(1), impl.MaxText), "d200"},
		{repeated(put(), impl.MaxParts), "-"},
		{append(repeated(drop(0), impl.MaxParts-1), put(97)), "p97"},
		{append(op(keep(7)), repeated(keep(0), impl.MaxParts-1)...), "k7"},
	}
}

// fullOptexts are operations with the greatest numbers, the longest strings and
// the most parts: a normal form has at most 300, which retain 100 characters
// and replace 100.
func fullOptexts() []optextCase {
	most := slices.Repeat([]int{impl.MaxSign}, impl.MaxText)
	long := "p" + strings.Repeat("1114111.", impl.MaxText-1) + "1114111"
	singly := strings.Repeat("p97 d1 k1 ", impl.MaxText/2)
	return []optextCase{
		{op(put(most...)), long},
		{op(put(most...), drop(200)), long + " d200"},
		{op(drop(200), put(most...)), long + " d200"},
		{repeated(put(impl.MaxSign), impl.MaxText), long},
		{slices.Repeat(op(put(97), drop(1), keep(1)), 100), strings.TrimSuffix(singly, " ")},
		{slices.Repeat(op(drop(1), put(97), keep(1)), 100), strings.TrimSuffix(singly, " ")},
		{slices.Repeat(op(drop(1), put(97), keep(0), put(), drop(0), keep(1)), 100), strings.TrimSuffix(singly, " ")},
		{slices.Repeat(op(keep(1), put(97), drop(1)), 100), strings.TrimSuffix(strings.Repeat("k1 p97 d1 ", 100), " ")},
		{slices.Repeat(op(put(97), keep(1)), 100), strings.TrimSuffix(strings.Repeat("p97 k1 ", 100), " ")},
		{slices.Repeat(op(drop(1), keep(1)), 100), strings.TrimSuffix(strings.Repeat("d1 k1 ", 100), " ")},
		{slices.Repeat(op(drop(1), put(97), keep(0)), 200), "p97" + strings.Repeat(".97", 199) + " d200"},
	}
}

func optextCases() []optextCase {
	return slices.Concat(onePart(), moreParts(), unnormalized(), fullOptexts())
}

// written writes an operation that is OpOk without the program.
func written(o []impl.Part) string {
	var words []string
	for _, p := range stepwiseNorm(o) {
		switch p.Kind {
		case impl.PtKeep:
			words = append(words, fmt.Sprintf("k%d", p.N))
		case impl.PtPut:
			words = append(words, "p"+writtenSigns(p.Signs))
		case impl.PtDrop:
			words = append(words, fmt.Sprintf("d%d", p.N))
		}
	}
	if len(words) == 0 {
		return "-"
	}
	return strings.Join(words, " ")
}

func writtenSigns(l []int) string {
	if len(l) == 0 {
		return "-"
	}
	return strings.ReplaceAll(strings.Trim(fmt.Sprint(l), "[]"), " ", ".")
}

var (
	signsForm = regexp.MustCompile(`\A(0|[1-9][0-9]*)(\.(0|[1-9][0-9]*))*\z`)
	sizeForm  = regexp.MustCompile(`\A[1-9][0-9]{0,2}\z`)
)

// readSigns reads a list of at least one character without the program.
func readSigns(s string) ([]int, bool) {
	if !signsForm.MatchString(s) {
		return nil, false
	}
	var l []int
	for _, numeral := range strings.Split(s, ".") {
		n, err := strconv.Atoi(numeral)
		if err != nil || n > impl.MaxSign || n >= 55296 && n <= 57343 {
			return nil, false
		}
		l = append(l, n)
	}
	return l, true
}

// readPart reads a word of at least one byte without the program.
func readPart(word string) (impl.Part, bool) {
	kind, rest := strings.IndexByte(" kpd", word[0]), word[1:]
	if kind == impl.PtPut {
		l, ok := readSigns(rest)
		return put(l...), ok
	}
	n, _ := strconv.Atoi(rest)
	return impl.Part{Kind: kind, N: n}, kind > 0 && sizeForm.MatchString(rest)
}

// readOp reads the string of an operation without the program.
func readOp(s string) ([]impl.Part, bool) {
	if s == "-" {
		return nil, true
	}
	var o []impl.Part
	for _, word := range strings.Split(s, " ") {
		if word == "" {
			return nil, false
		}
		p, ok := readPart(word)
		if !ok {
			return nil, false
		}
		o = append(o, p)
	}
	kept, puts, drops := lengths(o)
	return o, kept+drops <= impl.MaxText && kept+puts <= impl.MaxText && alike(o, stepwiseNorm(o))
}

func refusesTextOp(t *testing.T, s string) {
	t.Helper()
	if o, ok := impl.TextOp(s); ok || len(o) != 0 {
		t.Fatalf("TextOp(%q): %v %v", s, o, ok)
	}
}

// checkTextOp compares TextOp with what readOp reads, and returns whether it
// is an operation.
func checkTextOp(t *testing.T, s string) bool {
	t.Helper()
	want, good := readOp(s)
	if !good {
		refusesTextOp(t, s)
		return false
	}
	got, ok := impl.TextOp(s)
	if !ok || !alike(got, want) || !impl.OpSame(got, want) || !impl.IsNorm(got) {
		t.Fatalf("TextOp(%q): %v %v, not %v", s, got, ok, want)
	}
	if again := impl.OpText(got); again != s {
		t.Fatalf("OpText(%v): %q, not %q", got, again, s)
	}
	return true
}

// checkOptext checks OpText of an operation that is OpOk, and that it is
// recovered.
func checkOptext(t *testing.T, o []impl.Part, want string) {
	t.Helper()
	s := impl.OpText(o)
	if s != want {
		t.Fatalf("OpText(%v): %q, not %q", o, s, want)
	}
	got, ok := impl.TextOp(s)
	if !ok || !impl.OpSame(got, impl.OpNorm(o)) || !alike(got, stepwiseNorm(o)) || !impl.IsNorm(got) {
		t.Fatalf("TextOp(%q): %v %v, of %v", s, got, ok, o)
	}
}

func TestP13OpText(t *testing.T) {
	for _, c := range optextCases() {
		if got := impl.OpText(c.o); got != c.text {
			t.Errorf("OpText(%v): %q, not %q", c.o, got, c.text)
		}
		if want := written(c.o); want != c.text {
			t.Errorf("the case %v has %q, not %q", c.o, c.text, want)
		}
	}
}

func TestP12OpsAreRecovered(t *testing.T) {
	for _, c := range optextCases() {
		checkOptext(t, c.o, c.text)
		checkOptext(t, impl.OpNorm(c.o), c.text)
		if !checkTextOp(t, c.text) {
			t.Errorf("%q is not read as the string of an operation", c.text)
		}
	}
	for _, o := range fullPlaces() {
		checkOptext(t, o, written(o))
	}
}

// TestP12EveryNumberIsRecovered is about every length of a part and every
// character.
func TestP12EveryNumberIsRecovered(t *testing.T) {
	for n := 1; n <= impl.MaxText; n++ {
		checkOptext(t, op(keep(n)), "k"+strconv.Itoa(n))
		checkOptext(t, op(drop(n)), "d"+strconv.Itoa(n))
		checkOptext(t, op(put(letters(n)...)), written(op(put(letters(n)...))))
	}
	for n := range impl.MaxSign + 1 {
		s := strconv.Itoa(n)
		l, ok := impl.TextSign(s)
		o, fine := impl.TextOp("p" + s)
		if n >= 55296 && n <= 57343 {
			if ok || fine || len(l) != 0 || len(o) != 0 || impl.SignText([]int{n}) != "" || impl.OpText(op(put(n))) != "" {
				t.Fatalf("%d is a character: %v %v, %v %v", n, l, ok, o, fine)
			}
			continue
		}
		if !ok || !fine || !slices.Equal(l, []int{n}) || !alike(o, op(put(n))) || impl.SignText(l) != s || impl.OpText(o) != "p"+s {
			t.Fatalf("the character %d is not recovered: %v %v, %v %v", n, l, ok, o, fine)
		}
	}
}

func TestP12SmallOpsAreRecovered(t *testing.T) {
	smallOps(5, func(o []impl.Part) { checkOptext(t, o, written(o)) })
}

func TestP12RandomOpsAreRecovered(t *testing.T) {
	r := rand.New(rand.NewSource(23))
	for range 1000 {
		o := randomOp(r)
		checkOptext(t, o, written(o))
		o = randomOpOn(r, r.Intn(impl.MaxText+1))
		checkOptext(t, o, written(o))
		checkOptext(t, padded(r, o), written(o))
	}
}

// TestP12RunsInEveryOrderHaveOneString: the insertions of a run come first.
func TestP12RunsInEveryOrderHaveOneString(t *testing.T) {
	permuted(op(put(65), put(65, 65), put(65), drop(1), drop(2)), func(run []impl.Part) {
		checkOptext(t, slices.Concat(op(keep(1)), run, op(keep(2))), "k1 p65.65.65.65 d3 k2")
	})
}

func TestP13OpTextPartsWithoutEffect(t *testing.T) {
	for _, c := range slices.Concat(onePart(), moreParts()) {
		for at := range len(c.o) + 1 {
			for _, none := range withoutEffect() {
				checkOptext(t, slices.Insert(slices.Clone(c.o), at, none...), c.text)
			}
		}
	}
}

func TestP13OpTextOfBadOps(t *testing.T) {
	for _, o := range append(notOk(), op(impl.Part{})) {
		if got := impl.OpText(o); got != "" {
			t.Errorf("OpText(%v): %q", o, got)
		}
	}
}

// badWords are no words of the string of an operation.
func badWords() []string {
	l := []string{
		"", "k", "d", "p", "k0", "d0", "k00", "d00", "p00", "1", "0", "97", "200", "97.98", ".",
		"k01", "d01", "p01", "k001", "d0200", "p097", "p97.098", "p097.98", "p97.00",
		"k+1", "d+1", "p+97", "k-1", "d-1", "p-97", "k-0", "p-0", "p97.+98", "p97.-98", "p-", "k-", "d-", "--", "-1", "-k1", "k1-",
		"K1", "D1", "P97", "i1", "r1", "a1", "x97", "j1", "l1", "c1", "e1", "o97", "q97", "\x001", "\xff1", "\xc3\xa91",
		"kk1", "kd1", "dd1", "pp97", "1k", "1d", "97p", "k1k1", "k1d1", "k1p97", "p97k1", "p97p98", "k1.1", "d1.1", "k1.", "d1.", "k.1", "k1.2", "k1.97",
		"p.", "p..", "p.97", "p97.", "p97..98", "p.97.98", "p97.98.", "p97.98..", "p97...98", "p97,98", "p97;98", "p97:98", "p97_98", "p97/98", "p97-98",
		"pa", "pab", "p97.a", "pa.97", "p97.p98", "p0x61", "p9a", "k1a", "ka", "d1a", "k0x1", "d1e1", "k1_0", "k1,0",
		"p55296", "p57343", "p56000", "p97.55296", "p55296.97", "p97.57343.98", "p1114112", "p1114112.97", "p97.1114112", "p1000000000", "p97.1000000000",
		"k201", "d201", "k202", "k999", "d1000", "k1000000000", "d1000000000", "k1000000001", "d1000000001", "p1000000001", "k4294967297", "p4294967393",
		"k9223372036854775807", "k9223372036854775808", "k18446744073709551617", "d18446744073709551617", "p18446744073709551713",
		"k99999999999999999999999999", "p97.99999999999999999999999999",
		"k\xd9\xa1", "k\xef\xbc\x91", "p\xef\xbc\x99\xef\xbc\x97", "k\xc2\xb2", "k1\x00", "k\x001", "k1\xff", "p97\x00", "p97.\xff", "p97\xc2\xb798",
		"\"k1\"", "k1;", "k1,", "(k1)", "k=1", "k:1",
	}
	return append(l, "p"+strings.Repeat("97.", impl.MaxText)+"97", "p"+strings.Repeat("0.", 1000)+"0", "k"+strings.Repeat("1", 1000), strings.Repeat("k", 1000))
}

// badOpTexts are no strings of operations.
func badOpTexts() []string {
	return []string{
		"", " ", "  ", " -", "- ", "- -", "--", "-\n", "\n-", "-k1", "_", "\xe2\x88\x92", "\xe2\x80\x93",
		" k1", "k1 ", " k1 ", "  k1", "k1  ", "k1  d1", "k2  p97 d1", "k2 p97  d1", "k1   d1", " k2 p97.98 d1", "k2 p97.98 d1 ",
		"k1,d1", "k1, d1", "k1;d1", "k1\td1", "k1\nd1", "k1\rd1", "k1\x00d1", "k1\xc2\xa0d1", "k1\xe2\x80\x83d1", "k1.d1", "k1/d1", "k1|d1", "k1d1", "k1_d1",
		"k1\n", "\nk1", "k1\r\n", "\tk1", "k1\t", "k 1", "p 97", "d 1", "p97 .98", "p97. 98", "p97 98", "k1 1", "1 k1",
		"- k1", "k1 -", "k1 - d1", "- d1", "p97 -", "- p97", "k2 p97.98 d1 -", "- k2 p97.98 d1",
		// Not normalized.
		"k1 k1", "d1 p97", "p97 p98", "d1 d1", "k0 k1", "k1 k0", "d0 p97", "p97 d0", "k1 d0 k1", "k2 d1 p97", "d1 p97 k2", "p97 d1 p98", "p97 d1 d1",
		"d1 p97 d1", "k1 p97 p98 k1", "k1 k1 p97", "p97 k1 k1", "k1 d1 d1 k1", "k1 d1 k1 k1", "k1 d1 k1 d1 p97", "k1 p d1", "k0 p97", "p97 k0 p98",
		// Not OpOk.
		"k200 d1", "k200 p97", "d1 k200", "p97 k200", "d200 k1", "k199 d2", "k199 p97.98", "k100 d101", "k100 p97 k100", "k100 d1 k100", "k1 d1 k199",
		"k201", "d201", "k201 d1", "p97 d201", "k1000000000 d1000000000 k1000000000",
	}
}

// longOpTexts are too long for an operation: some have more than MaxText
// characters, some have more than MaxParts parts, and some have no parts at all.
func longOpTexts() []string {
	return []string{
		"p" + strings.Repeat("97.", impl.MaxText) + "97",
		"p" + strings.Repeat("97.", impl.MaxText-1) + "97 k1",
		"k1 p" + strings.Repeat("97.", impl.MaxText-1) + "97",
		"p" + strings.Repeat("97.", impl.MaxText) + "97 d200",
		strings.Repeat("p97 d1 k1 ", 100) + "p97",
		strings.Repeat("p97 d1 k1 ", 100) + "d1",
		strings.Repeat("p97 d1 k1 ", 100) + "p97 d1",
		strings.Repeat("k1 p97 d1 ", 100) + "k1",
		strings.Repeat("p97 k1 ", 100) + "p97",
		strings.Repeat("d1 k1 ", 100) + "d1",
		strings.Repeat("p97 d1 k1 ", 200) + "p97",
		strings.Repeat("p97 d1 k1 ", 5000) + "p97",
		strings.Repeat("k0 ", impl.MaxParts-1) + "k0",
		strings.Repeat("k0 ", impl.MaxParts) + "k0",
		strings.Repeat("k1 ", impl.MaxText) + "k1",
		strings.Repeat("k1 ", impl.MaxText-1) + "k1",
		strings.Repeat("k1000000000 d1000000000 ", 1000) + "k1",
		strings.Repeat(" ", 1000),
		strings.Repeat("-", 1000),
		strings.Repeat(".", 1000),
	}
}

func TestP13TextOpOfNoOp(t *testing.T) {
	for _, s := range slices.Concat(badOpTexts(), longOpTexts()) {
		if _, good := readOp(s); good {
			t.Errorf("%q is the string of an operation", s)
		}
		refusesTextOp(t, s)
	}
}

// TestP13TextOpOfBadWords has such a word alone and at every place among good
// ones.
func TestP13TextOpOfBadWords(t *testing.T) {
	for _, word := range badWords() {
		refusesTextOp(t, word)
		for _, c := range moreParts() {
			words := strings.Split(c.text, " ")
			for at := range len(words) + 1 {
				refusesTextOp(t, strings.Join(slices.Insert(slices.Clone(words), at, word), " "))
				if at < len(words) {
					other := slices.Clone(words)
					other[at] = word
					refusesTextOp(t, strings.Join(other, " "))
				}
			}
		}
	}
}

// TestP13TextOpOfBadStrings has bytes that are no UTF-8 around and in a string.
func TestP13TextOpOfBadStrings(t *testing.T) {
	for _, bad := range badStrings() {
		for _, s := range []string{bad, "k1" + bad, bad + "k1", "k1 " + bad, bad + " k1", "p97" + bad + "98", "k" + bad, "-" + bad, bad + "-"} {
			refusesTextOp(t, s)
			refusesTextSign(t, s)
		}
	}
}

// shortStrings visits every string of up to most bytes of the alphabet.
func shortStrings(alphabet string, most int, visit func(s string)) {
	var grow func(s string)
	grow = func(s string) {
		visit(s)
		if len(s) == most {
			return
		}
		for i := range len(alphabet) {
			grow(s + alphabet[i:i+1])
		}
	}
	grow("")
}

func TestP12TextOpOfShortStrings(t *testing.T) {
	count := 0
	for _, alphabet := range []string{"kdp 01.-", "kp2+K. "} {
		shortStrings(alphabet, 6, func(s string) {
			if checkTextOp(t, s) {
				count++
			}
		})
	}
	if count < 100 {
		t.Errorf("only %d strings of operations", count)
	}
	for a := range 256 {
		for b := range 256 {
			checkTextOp(t, string([]byte{byte(a), byte(b)}))
			checkTextOp(t, string([]byte{byte(a), '1', byte(b)}))
			checkTextOp(t, string([]byte{'k', byte(a), byte(b)}))
			checkTextOp(t, string([]byte{'k', '1', byte(a), byte(b), '1'}))
			checkTextOp(t, string([]byte{'p', '1', byte(a), byte(b), '1'}))
		}
	}
}

// changedStrings visits s with a byte removed, replaced, inserted or doubled.
func changedStrings(s string, visit func(s string)) {
	for at := range len(s) + 1 {
		for _, c := range []string{"k", "d", "p", "K", " ", ".", "-", "+", "0", "1", "9", ",", "\n", "\x00", "\xff"} {
			visit(s[:at] + c + s[at:])
			if at < len(s) {
				visit(s[:at] + c + s[at+1:])
			}
		}
		if at < len(s) {
			visit(s[:at] + s[at+1:])
			visit(s[:at] + s[at:at+1] + s[at:])
			visit(s[:at])
			visit(s[at:])
		}
	}
}

func TestP12TextOpOfChangedStrings(t *testing.T) {
	for _, c := range slices.Concat(onePart(), moreParts()) {
		changedStrings(c.text, func(s string) { checkTextOp(t, s) })
	}
}

// TestP13TextOpAtItsLimits is about operations that just fit and those that
// are too long by one character.
func TestP13TextOpAtItsLimits(t *testing.T) {
	for n := range impl.MaxText + 3 {
		for _, many := range []int{0, 1, impl.MaxText - n, impl.MaxText + 1 - n} {
			for _, form := range []string{"k%d d%d", "d%d k%d", "p97 k%d d%d", "p97.98 d%d k%d"} {
				checkTextOp(t, fmt.Sprintf(form, n, many))
			}
			if many >= 0 {
				checkTextOp(t, fmt.Sprintf("k%d p%s", n, writtenSigns(letters(many))))
				checkTextOp(t, fmt.Sprintf("p%s d%d", writtenSigns(letters(many)), n))
			}
		}
	}
}

// signCases have the strings of texts written out.
func signCases() map[string][]int {
	return map[string][]int{
		"-":                           nil,
		"0":                           {0},
		"1":                           {1},
		"10":                          {10},
		"45":                          {45},
		"46":                          {46},
		"97":                          {97},
		"55295":                       {55295},
		"57344":                       {57344},
		"1114111":                     {1114111},
		"97.98":                       {97, 98},
		"97.10":                       {97, 10},
		"0.0":                         {0, 0},
		"0.0.0":                       {0, 0, 0},
		"97.98.99":                    {97, 98, 99},
		"45.46.32.48":                 {45, 46, 32, 48},
		"1114111.0.57344.55295.65533": {1114111, 0, 57344, 55295, 65533},
	}
}

func refusesTextSign(t *testing.T, s string) {
	t.Helper()
	if l, ok := impl.TextSign(s); ok || len(l) != 0 {
		t.Fatalf("TextSign(%q): %v %v", s, l, ok)
	}
}

// checkTextSign compares TextSign with what readSigns reads.
func checkTextSign(t *testing.T, s string) {
	t.Helper()
	want, good := readSigns(s)
	if !good && s != "-" {
		refusesTextSign(t, s)
		return
	}
	got, ok := impl.TextSign(s)
	if !ok || !slices.Equal(got, want) {
		t.Fatalf("TextSign(%q): %v %v, not %v", s, got, ok, want)
	}
	if again := impl.SignText(got); again != s {
		t.Fatalf("SignText(%v): %q, not %q", got, again, s)
	}
}

// checkSignText checks SignText of characters, and that they are recovered.
func checkSignText(t *testing.T, l []int, want string) {
	t.Helper()
	s := impl.SignText(l)
	if s != want {
		t.Fatalf("SignText(%v): %q, not %q", l, s, want)
	}
	if got, ok := impl.TextSign(s); !ok || !slices.Equal(got, l) {
		t.Fatalf("TextSign(%q): %v %v, not %v", s, got, ok, l)
	}
}

func TestP12CharactersAreRecovered(t *testing.T) {
	for s, l := range signCases() {
		checkSignText(t, l, s)
		checkTextSign(t, s)
	}
	for a := range encodings() {
		for b := range encodings() {
			checkSignText(t, []int{a, b}, fmt.Sprintf("%d.%d", a, b))
			checkSignText(t, []int{b, a, b}, fmt.Sprintf("%d.%d.%d", b, a, b))
		}
	}
	r := rand.New(rand.NewSource(24))
	for n := range 300 {
		l := randomText(r, n)
		checkSignText(t, l, writtenSigns(l))
	}
}

// TestP12LongListsAreRecovered: a list of characters may be longer than a text.
func TestP12LongListsAreRecovered(t *testing.T) {
	for _, n := range []int{impl.MaxText - 1, impl.MaxText, impl.MaxText + 1, 2 * impl.MaxText, 10000} {
		l := slices.Repeat([]int{impl.MaxSign}, n)
		checkSignText(t, l, strings.TrimSuffix(strings.Repeat("1114111.", n), "."))
		checkSignText(t, numbered(n), writtenSigns(numbered(n)))
	}
}

func TestP13SignTextOfNoCharacters(t *testing.T) {
	for _, n := range notSigns() {
		for _, l := range [][]int{{n}, {n, n}, {n, 97}, {97, n}, {97, n, 98}, append(letters(500), n), append([]int{n}, letters(500)...)} {
			if got := impl.SignText(l); got != "" {
				t.Errorf("SignText(%v): %q", l, got)
			}
		}
	}
}

// badSignTexts are no strings of characters.
func badSignTexts() []string {
	return []string{
		"", ".", "..", "...", ".97", "97.", ".97.", "..97", "97..", "97..98", "97...98", ".97.98", "97.98.", "97.98..99", "97.98.99.",
		"00", "01", "097", "0097", "97.098", "097.98", "97.00", "00.97", "97.01.98",
		"+97", "-97", "+0", "-0", "97.+98", "97.-98", "+", "--", "-.-", "-.97", "97.-", "97-98", "- ", " -", "-\n", "--97",
		" ", " 97", "97 ", "97 98", "97. 98", "97 .98", "97 . 98", " 97.98", "97.98 ", "\t97", "97\n", "97\r\n", "97\x00", "\x0097",
		"a", "k97", "p97", "97.a", "a.97", "97a", "9a7", "0x61", "1e1", "97,98", "97;98", "97:98", "97_98", "9_7", "97/98", "97\xc2\xb798",
		"55296", "55297", "56000", "57343", "97.55296", "57343.97", "97.56000.98", "1114112", "97.1114112", "1114112.97", "1000000000", "97.1000000000",
		"1000000001", "4294967296", "4294967393", "9223372036854775807", "9223372036854775808", "18446744073709551616", "18446744073709551713",
		"97.18446744073709551713", "99999999999999999999999999", "\xd9\xa1", "\xef\xbc\x99", "\xc2\xb2", "\xff", "97.\xff", "\xff.97", "97\xff98",
		strings.Repeat("97.", 1000), strings.Repeat(".", 1000), strings.Repeat("9", 1000), strings.Repeat("97.", 1000) + "55296",
	}
}

func TestP13TextSignOfNoCharacters(t *testing.T) {
	for _, s := range badSignTexts() {
		refusesTextSign(t, s)
		refusesTextOp(t, "p"+s)
	}
}

func TestP12TextSignOfShortStrings(t *testing.T) {
	for _, alphabet := range []string{"015.-", "9. +0"} {
		shortStrings(alphabet, 6, func(s string) { checkTextSign(t, s) })
	}
	for a := range 256 {
		for b := range 256 {
			checkTextSign(t, string([]byte{byte(a), byte(b)}))
			checkTextSign(t, string([]byte{'9', byte(a), byte(b), '7'}))
		}
	}
	for s := range signCases() {
		changedStrings(s, func(s string) { checkTextSign(t, s) })
	}
}

// showCases have what is shown written out.
func showCases() []struct {
	t    []int
	want string
} {
	return []struct {
		t    []int
		want string
	}{
		{nil, ""},
		{[]int{}, ""},
		{[]int{0}, "?"},
		{[]int{9}, "?"},
		{[]int{10}, "?"},
		{[]int{30}, "?"},
		{[]int{31}, "?"},
		{[]int{32}, " "},
		{[]int{33}, "!"},
		{[]int{63}, "?"},
		{[]int{97}, "a"},
		{[]int{126}, "~"},
		{[]int{127}, "?"},
		{[]int{128}, "\xc2\x80"},
		{[]int{159}, "\xc2\x9f"},
		{[]int{233}, "\xc3\xa9"},
		{[]int{2047}, "\xdf\xbf"},
		{[]int{2048}, "\xe0\xa0\x80"},
		{[]int{8232}, "\xe2\x80\xa8"},
		{[]int{8364}, "\xe2\x82\xac"},
		{[]int{55295}, "\xed\x9f\xbf"},
		{[]int{57344}, "\xee\x80\x80"},
		{[]int{65279}, "\xef\xbb\xbf"},
		{[]int{65533}, "\xef\xbf\xbd"},
		{[]int{65535}, "\xef\xbf\xbf"},
		{[]int{65536}, "\xf0\x90\x80\x80"},
		{[]int{128512}, "\xf0\x9f\x98\x80"},
		{[]int{1114111}, "\xf4\x8f\xbf\xbf"},
		{[]int{97, 10, 233}, "a?\xc3\xa9"},
		{[]int{10, 10, 10}, "???"},
		{[]int{31, 32, 126, 127, 128}, "? ~?\xc2\x80"},
		{[]int{127, 97, 0}, "?a?"},
		{[]int{97, 233, 8364, 128512, 13, 128512, 8364, 233, 97}, "a\xc3\xa9\xe2\x82\xac\xf0\x9f\x98\x80?\xf0\x9f\x98\x80\xe2\x82\xac\xc3\xa9a"},
	}
}

// seen replaces in the encoding what Show replaces among the characters.
func seen(l []int) string {
	var b strings.Builder
	for _, n := range l {
		b.WriteRune(rune(n))
	}
	return regexp.MustCompile(`[\x00-\x1f\x7f]`).ReplaceAllString(b.String(), "?")
}

func TestP13Show(t *testing.T) {
	for _, c := range showCases() {
		if got := impl.Show(c.t); got != c.want {
			t.Errorf("Show(%v): %q, not %q", c.t, got, c.want)
		}
	}
	for n := range impl.MaxSign + 1 {
		want := string(rune(n))
		switch {
		case n >= 55296 && n <= 57343:
			want = ""
		case n <= 31 || n == 127:
			want = "?"
		}
		if got := impl.Show([]int{n}); got != want {
			t.Fatalf("Show of %d: %q, not %q", n, got, want)
		}
	}
}

// TestP13ShowOfLongTexts: what is shown may be longer than a text.
func TestP13ShowOfLongTexts(t *testing.T) {
	r := rand.New(rand.NewSource(25))
	for _, n := range []int{2, 10, impl.MaxText - 1, impl.MaxText, impl.MaxText + 1, 2 * impl.MaxText, 10000} {
		for _, most := range []int{33, 130, 300, 55296} {
			l := make([]int, n)
			for i := range l {
				l[i] = r.Intn(most)
			}
			if got := impl.Show(l); got != seen(l) {
				t.Errorf("Show(%v): %q", l, got)
			}
		}
	}
}

func TestP13ShowOfNoCharacters(t *testing.T) {
	for _, n := range notSigns() {
		for _, l := range [][]int{{n}, {n, 97}, {97, n}, {10, n, 127}, {n, n}, append(letters(500), n)} {
			if got := impl.Show(l); got != "" {
				t.Errorf("Show(%v): %q", l, got)
			}
		}
	}
}

func TestP13OptextNilAndEmptyAreEqual(t *testing.T) {
	for _, none := range [][]int{nil, {}} {
		if impl.SignText(none) != "-" || impl.Show(none) != "" {
			t.Errorf("no characters: %q and %q", impl.SignText(none), impl.Show(none))
		}
		for _, c := range optextCases() {
			checkOptext(t, emptied(c.o, none), c.text)
		}
	}
	for _, o := range [][]impl.Part{nil, {}} {
		checkOptext(t, o, "-")
	}
}

func TestP13OptextArgumentsAreNotChanged(t *testing.T) {
	ops := append(notOk(), fullPlaces()...)
	for _, c := range optextCases() {
		ops = append(ops, c.o)
	}
	for _, own := range ops {
		o, kept := sparedOp(own)
		impl.OpText(o)
		if !kept() {
			t.Errorf("OpText changed %v", own)
		}
	}
	lists := append(badTexts(), nil, letters(3), numbered(impl.MaxText), []int{0, 10, 31, 32, 126, 127, 128})
	for _, c := range showCases() {
		lists = append(lists, c.t)
	}
	for _, own := range lists {
		l, kept := spared(own)
		impl.SignText(l)
		impl.Show(l)
		if !kept() {
			t.Errorf("SignText or Show changed %v", own)
		}
	}
}

// TestP13OptextStringsStay: a string does not depend on its argument after the
// call.
func TestP13OptextStringsStay(t *testing.T) {
	for _, c := range optextCases() {
		o, _ := sparedOp(c.o)
		s := impl.OpText(o)
		spoilOp(o)
		if s != c.text {
			t.Errorf("OpText(%v) became %q", c.o, s)
		}
	}
	for want, own := range signCases() {
		l, _ := spared(own)
		s, shown := impl.SignText(l), impl.Show(l)
		spoil(l)
		if s != want || shown != seen(own) {
			t.Errorf("SignText and Show of %v became %q and %q", own, s, shown)
		}
	}
}

func TestP13OptextResultsShareNothing(t *testing.T) {
	for _, c := range optextCases() {
		spoiled, _ := impl.TextOp(c.text)
		o, _ := impl.TextOp(c.text)
		spoilOp(spoiled)
		if !alike(o, stepwiseNorm(c.o)) {
			t.Errorf("two results of TextOp(%q) share memory", c.text)
		}
		if !separate(signLists(o)...) {
			t.Errorf("two parts of TextOp(%q) share memory", c.text)
		}
	}
	for s, want := range signCases() {
		spoiled, _ := impl.TextSign(s)
		l, _ := impl.TextSign(s)
		spoil(spoiled)
		if !slices.Equal(l, want) {
			t.Errorf("two results of TextSign(%q) share memory", s)
		}
	}
}
