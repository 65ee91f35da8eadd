package tests

import (
	"math"
	"math/rand"
	"regexp"
	"slices"
	"strings"
	"testing"

	"loop.example/g00797/impl"
)

// docCase is a valid document with the texts at all its stored revisions.
type docCase struct {
	d     impl.Doc
	texts [][]int
}

// entries numbers the operations: the clients take turns.
func entries(ops ...[]impl.Part) []impl.Entry {
	var l []impl.Entry
	for i, o := range ops {
		l = append(l, impl.Entry{Client: 1 + i%impl.MaxClients, Seq: 10 + i, O: o})
	}
	return l
}

// allSeen has a request of every client, the later ones at earlier revisions.
func allSeen(head int) []impl.Seen {
	var l []impl.Seen
	for client := 1; client <= impl.MaxClients; client++ {
		l = append(l, impl.Seen{Client: client, Seq: 100 - client, Rev: head + 1 - client})
	}
	return l
}

// chainDoc has the operations of chain, in normal form, with revisions 5 to 9.
func chainDoc() docCase {
	ops, texts := chain()
	for i, o := range ops {
		ops[i] = stepwiseNorm(o)
	}
	seen := []impl.Seen{{Client: 1, Seq: 10, Rev: 6}, {Client: 3, Seq: 12, Rev: 8}, {Client: 6, Seq: impl.MaxNum, Rev: 1}, {Client: 8, Seq: 1, Rev: 9}}
	return docCase{impl.Doc{Name: "abc", From: 5, Text: texts[0], List: entries(ops...), Seen: seen}, texts}
}

// fullDoc has a name, a text, entries and requests up to every limit but that
// of From: eight entries, of which some lead to MaxText characters or to none.
func fullDoc(from int) docCase {
	full, other := numbered(impl.MaxText), letters(impl.MaxText)
	texts := [][]int{full, full, nil, nil, other, full, full[:1], other[:2], other}
	ops := [][]impl.Part{
		op(keep(impl.MaxText)), op(drop(impl.MaxText)), nil, op(put(other...)), op(put(full...), drop(impl.MaxText)),
		op(keep(1), drop(impl.MaxText-1)), op(put(other[:2]...), drop(1)), op(keep(2), put(other[2:]...)),
	}
	d := impl.Doc{Name: "abcdefgz", From: from, Text: full, List: entries(ops...), Seen: allSeen(from + len(ops))}
	d.List[7].Seq = impl.MaxNum
	d.Seen[7].Seq = impl.MaxNum
	return docCase{d, texts}
}

const lastFrom = impl.MaxNum - 1000

// plainDocs are valid documents that are written out.
func plainDocs() []docCase {
	return []docCase{
		{impl.Doc{Name: "a"}, [][]int{nil}},
		{impl.Doc{Name: "z", From: lastFrom}, [][]int{nil}},
		{impl.Doc{Name: "zzzzzzzz", From: 1, Text: numbered(200), Seen: []impl.Seen{{Client: 8, Seq: 1, Rev: 1}}}, [][]int{numbered(200)}},
		{impl.Doc{Name: "ab", Text: []int{0, impl.MaxSign}, List: entries(op(keep(2)))}, [][]int{{0, impl.MaxSign}, {0, impl.MaxSign}}},
		{impl.Doc{Name: "ab", List: entries(nil), Seen: []impl.Seen{{Client: 1, Seq: impl.MaxNum, Rev: 1}}}, [][]int{nil, nil}},
		{impl.Doc{Name: "az", From: 7, List: entries(op(put(97)), op(put(98), drop(1)), op(drop(1))), Seen: allSeen(10)}, [][]int{nil, {97}, {98}, nil}},
		{impl.Doc{Name: "a", Text: []int{97, 98}, List: entries(op(keep(2), put(65)), op(put(66), keep(3))), Seen: []impl.Seen{{Client: 1, Seq: 10, Rev: 1}, {Client: 2, Seq: 11, Rev: 2}}}, [][]int{{97, 98}, {97, 98, 65}, {66, 97, 98, 65}}},
		chainDoc(),
		fullDoc(0),
		fullDoc(500),
	}
}

// randomDoc returns a valid document.
func randomDoc(r *rand.Rand) docCase {
	d := impl.Doc{Name: randomName(r), From: r.Intn(20), Text: randomText(r, r.Intn(60))}
	texts := [][]int{d.Text}
	for range r.Intn(impl.MaxWindow + 1) {
		now := texts[len(texts)-1]
		o := stepwiseNorm(mildOpOn(r, len(now)))
		if !impl.OpOk(o) {
			break
		}
		d.List = append(d.List, impl.Entry{Client: 1 + r.Intn(8), Seq: 1 + r.Intn(impl.MaxNum), O: o})
		texts = append(texts, effect(o, now))
	}
	head := d.From + len(d.List)
	for client := 1; head > 0 && client <= impl.MaxClients; client++ {
		if r.Intn(2) == 0 {
			d.Seen = append(d.Seen, impl.Seen{Client: client, Seq: 1 + r.Intn(impl.MaxNum), Rev: 1 + r.Intn(head)})
		}
	}
	return docCase{d, texts}
}

func randomName(r *rand.Rand) string {
	b := make([]byte, 1+r.Intn(8))
	for i := range b {
		b[i] = byte('a' + r.Intn(26))
	}
	return string(b)
}

func docCases() []docCase {
	l := plainDocs()
	r := rand.New(rand.NewSource(31))
	for range 100 {
		l = append(l, randomDoc(r))
	}
	return l
}

// copiedDoc returns a deep copy, which may be changed at will.
func copiedDoc(d impl.Doc) impl.Doc {
	d.Text, d.Seen = slices.Clone(d.Text), slices.Clone(d.Seen)
	d.List = slices.Clone(d.List)
	for i, e := range d.List {
		d.List[i].O = nil
		for _, p := range e.O {
			d.List[i].O = append(d.List[i].O, impl.Part{Kind: p.Kind, N: p.N, Signs: slices.Clone(p.Signs)})
		}
	}
	return d
}

// entryAlike and docAlike compare field by field, without the program.
func entryAlike(a impl.Entry, b impl.Entry) bool {
	return a.Client == b.Client && a.Seq == b.Seq && alike(a.O, b.O)
}

func docAlike(a impl.Doc, b impl.Doc) bool {
	return a.Name == b.Name && a.From == b.From && slices.Equal(a.Text, b.Text) &&
		slices.EqualFunc(a.List, b.List, entryAlike) && slices.Equal(a.Seen, b.Seen)
}

func isZeroDoc(d impl.Doc) bool {
	return docAlike(d, impl.Doc{})
}

// soundEntry checks an entry without the program, but for OpOk.
func soundEntry(e impl.Entry) bool {
	return e.Client >= 1 && e.Client <= 8 && e.Seq >= 1 && e.Seq <= 1000000000 && impl.OpOk(e.O) && alike(e.O, stepwiseNorm(e.O))
}

// sound checks a document without the program, but for OpOk.
func sound(d impl.Doc) bool {
	if !regexp.MustCompile(`\A[a-z]{1,8}\z`).MatchString(d.Name) || d.From < 0 || d.From > 999999000 || len(d.List) > 8 {
		return false
	}
	now := d.Text
	for _, n := range now {
		if n < 0 || n > 0x10ffff || n >= 0xd800 && n <= 0xdfff {
			return false
		}
	}
	for _, e := range d.List {
		if !soundEntry(e) {
			return false
		}
		if kept, _, drops := lengths(e.O); kept+drops != len(now) {
			return false
		}
		now = effect(e.O, now)
	}
	last := 0
	for _, s := range d.Seen {
		if s.Client <= last || s.Client > 8 || s.Seq < 1 || s.Seq > 1000000000 || s.Rev < 1 || s.Rev > d.From+len(d.List) {
			return false
		}
		last = s.Client
	}
	return len(d.Text) <= 200 && len(now) <= 200
}

// farNumbers lie far from every limit of the numbers in a document.
func farNumbers() []int {
	return []int{math.MinInt, math.MinInt + 1, -1 << 32, -1000, 1<<32 + 1, 1<<32 + 5, math.MaxInt - 8, math.MaxInt - 1, math.MaxInt}
}

func TestP13DocConstants(t *testing.T) {
	if impl.MaxWindow != 8 || impl.MaxClients != 8 {
		t.Error("MaxWindow or MaxClients differs from the document")
	}
}

func TestP13NameOk(t *testing.T) {
	for _, s := range []string{"a", "m", "z", "ab", "az", "zz", "abc", "abcdefg", "abcdefgh", "zzzzzzzz", "aaaaaaaa"} {
		if !impl.NameOk(s) {
			t.Errorf("NameOk(%q) is false", s)
		}
	}
	bad := []string{
		"", "abcdefghi", "zzzzzzzzz", strings.Repeat("a", 16), strings.Repeat("a", 264), strings.Repeat("a", 100000),
		"A", "Z", "aB", "Ab", "ABC", "1", "a1", "1a", "a0", "9", "_", "a_b", "-", "a-b", ".", "a.b", "/", "a/b", "*",
		" ", " a", "a ", "a b", "\n", "a\n", "\na", "\t", "\x00", "a\x00", "\x00a", "\x7f", "`", "{", "a`", "{a",
		"\xc3\xa9", "a\xc3\xa9", "\xc3\xa9a", "\xc3\xbf", "\xff", "a\xff", "\x80", "\xe1", "\xfa", "\xe2\x82\xac", "\xf0\x9f\x98\x80",
		"\xef\xbd\x81", "\xd0\xb0", "\xc5\xa1", "a\xcc\x81", "\xf0\x9d\x92\x9c",
	}
	for _, s := range bad {
		if impl.NameOk(s) {
			t.Errorf("NameOk(%q) is true", s)
		}
	}
}

// TestP13NameOkOfEveryByte puts every byte at every place of names of every
// length.
func TestP13NameOkOfEveryByte(t *testing.T) {
	for n := range 12 {
		for at := range n {
			for c := range 256 {
				b := []byte(strings.Repeat("k", n))
				b[at] = byte(c)
				if want := n <= 8 && c >= 97 && c <= 122; impl.NameOk(string(b)) != want {
					t.Fatalf("NameOk(%q) is %v", b, !want)
				}
			}
		}
	}
}

// entryNumber is a number with whether it is a Client and a Seq of an entry.
type entryNumber struct {
	n           int
	client, seq bool
}

func entryNumbers() []entryNumber {
	l := []entryNumber{
		{-1, false, false}, {0, false, false}, {1, true, true}, {2, true, true}, {7, true, true}, {8, true, true}, {9, false, true}, {10, false, true},
		{impl.MaxNum - 1, false, true}, {impl.MaxNum, false, true}, {impl.MaxNum + 1, false, false}, {impl.MaxNum + 2, false, false},
	}
	for _, n := range farNumbers() {
		l = append(l, entryNumber{n, false, false})
	}
	return l
}

func TestP13EntryOk(t *testing.T) {
	for _, a := range entryNumbers() {
		for _, b := range entryNumbers() {
			for _, o := range [][]impl.Part{nil, {}, op(keep(2), put(97), drop(1))} {
				e := impl.Entry{Client: a.n, Seq: b.n, O: o}
				if want := a.client && b.seq; impl.EntryOk(e) != want {
					t.Errorf("EntryOk(%v) is %v", e, !want)
				}
			}
		}
	}
	if impl.EntryOk(impl.Entry{}) {
		t.Error("the zero value is an entry")
	}
}

func TestP13EntryOkOfOps(t *testing.T) {
	for _, c := range normCases() {
		if want := alike(c[0], c[1]); impl.EntryOk(impl.Entry{Client: 1, Seq: 1, O: c[0]}) != want {
			t.Errorf("EntryOk of %v is %v", c[0], !want)
		}
		if !impl.EntryOk(impl.Entry{Client: 8, Seq: impl.MaxNum, O: c[1]}) {
			t.Errorf("EntryOk of %v is false", c[1])
		}
	}
	for _, o := range notOk() {
		if impl.EntryOk(impl.Entry{Client: 1, Seq: 1, O: o}) {
			t.Errorf("EntryOk of %v is true", o)
		}
	}
	smallOps(4, func(o []impl.Part) {
		if want := alike(o, stepwiseNorm(o)); impl.EntryOk(impl.Entry{Client: 2, Seq: 3, O: o}) != want {
			t.Fatalf("EntryOk of %v is %v", o, !want)
		}
	})
}

func TestP13EntrySame(t *testing.T) {
	same := [][2]impl.Entry{
		{{}, {}},
		{{}, {O: op()}},
		{{Client: 1, Seq: 2, O: nil}, {Client: 1, Seq: 2, O: []impl.Part{}}},
		{{Client: 1, Seq: 2, O: op(keep(1))}, {Client: 1, Seq: 2, O: op(impl.Part{Kind: impl.PtKeep, N: 1, Signs: []int{}})}},
		{{Client: 1, Seq: 2, O: op(keep(1), put(97), drop(2))}, {Client: 1, Seq: 2, O: op(keep(1), put(97), drop(2))}},
		{{Client: -1, Seq: math.MaxInt, O: op(impl.Part{Kind: 9, N: -4})}, {Client: -1, Seq: math.MaxInt, O: op(impl.Part{Kind: 9, N: -4})}},
	}
	for _, p := range same {
		if !impl.EntrySame(p[0], p[1]) || !impl.EntrySame(p[1], p[0]) {
			t.Errorf("%v and %v differ", p[0], p[1])
		}
	}
	e := impl.Entry{Client: 1, Seq: 2, O: op(keep(1), put(97, 98), drop(2))}
	differ := []impl.Entry{
		{}, {Client: 2, Seq: 2, O: e.O}, {Client: 1, Seq: 1, O: e.O}, {Client: 2, Seq: 1, O: e.O}, {Client: -1, Seq: 2, O: e.O}, {Client: 1 + 1<<32, Seq: 2, O: e.O},
		{Client: 1, Seq: 2 + 1<<32, O: e.O}, {Client: 1, Seq: 2}, {Client: 1, Seq: 2, O: e.O[:2]}, {Client: 1, Seq: 2, O: e.O[1:]},
		{Client: 1, Seq: 2, O: op(keep(1), put(97, 98), drop(3))}, {Client: 1, Seq: 2, O: op(keep(1), put(97, 99), drop(2))},
		{Client: 1, Seq: 2, O: op(keep(1), put(97), drop(2))}, {Client: 1, Seq: 2, O: op(keep(1), drop(2), put(97, 98))},
		{Client: 1, Seq: 2, O: op(keep(1), put(97), put(98), drop(2))}, {Client: 1, Seq: 2, O: op(keep(1), put(97, 98), keep(2))},
	}
	for _, other := range differ {
		if impl.EntrySame(e, other) || impl.EntrySame(other, e) {
			t.Errorf("%v and %v are equal", e, other)
		}
	}
}

// badName, badFrom, badText, badList and badSeen are documents of which only
// this field is not valid.
func badName() []impl.Doc {
	var l []impl.Doc
	for _, name := range []string{"", "abcdefghi", "A", "aB", "a1", "a b", " a", "a\n", "a\x00", "\xc3\xa9", "\xff", "`", "{"} {
		d := copiedDoc(chainDoc().d)
		d.Name = name
		l = append(l, d, impl.Doc{Name: name})
	}
	return l
}

func badFrom() []impl.Doc {
	var l []impl.Doc
	for _, from := range append(farNumbers(), -1, -2, -1000, lastFrom+1, lastFrom+2, impl.MaxNum, impl.MaxNum+1) {
		l = append(l, impl.Doc{Name: "a", From: from})
		for _, c := range []docCase{chainDoc(), fullDoc(500)} {
			d := copiedDoc(c.d)
			d.From = from
			l = append(l, d)
			d.Seen = nil
			l = append(l, d)
		}
	}
	return l
}

// badText has texts to which the operations apply as far as lengths go.
func badText() []impl.Doc {
	var l []impl.Doc
	for _, text := range badTexts() {
		l = append(l, impl.Doc{Name: "a", Text: text}, impl.Doc{Name: "a", Text: text, List: entries(op(keep(len(text))))},
			impl.Doc{Name: "a", Text: text, List: entries(op(drop(len(text))), nil)})
	}
	for _, n := range notSigns() {
		d := copiedDoc(chainDoc().d)
		for at := range d.Text {
			bad := copiedDoc(d)
			bad.Text[at] = n
			l = append(l, bad)
		}
	}
	return l
}

// badEntry puts entries that are not EntryOk, or that do not fit, at every
// place of a list that is valid without them.
func badEntry() []impl.Doc {
	var l []impl.Doc
	c := chainDoc()
	for at, text := range c.texts {
		n := len(text)
		bad := []impl.Entry{
			{Client: 0, Seq: 1, O: op(keep(n))}, {Client: 9, Seq: 1, O: op(keep(n))}, {Client: -1, Seq: 1, O: op(keep(n))},
			{Client: 1, Seq: 0, O: op(keep(n))}, {Client: 1, Seq: impl.MaxNum + 1, O: op(keep(n))}, {Client: 1, Seq: -1, O: op(keep(n))}, {},
			{Client: 1, Seq: 1, O: op(keep(1), keep(n-1))}, {Client: 1, Seq: 1, O: op(keep(n), put())}, {Client: 1, Seq: 1, O: op(keep(0), keep(n))},
			{Client: 1, Seq: 1, O: op(drop(1), put(text[0]), keep(n-1))},
		}
		for _, o := range failsOn(n) {
			bad = append(bad, impl.Entry{Client: 1, Seq: 1, O: o})
		}
		for _, e := range bad {
			d := copiedDoc(c.d)
			d.List = slices.Insert(d.List, at, e)
			l = append(l, d)
		}
	}
	return l
}

// badList also has too many entries and entries of which one is missing.
func badList() []impl.Doc {
	l := badEntry()
	for _, n := range []int{impl.MaxWindow + 1, impl.MaxWindow + 2, 2 * impl.MaxWindow, 1000} {
		d := copiedDoc(fullDoc(500).d)
		d.List = append(d.List, slices.Repeat(entries(op(keep(impl.MaxText))), n-impl.MaxWindow)...)
		l = append(l, d, impl.Doc{Name: "a", List: slices.Repeat(entries(nil), n)})
	}
	// The neighbours of the second and of the third entry do not fit together.
	for at := 1; at <= 2; at++ {
		d := copiedDoc(chainDoc().d)
		d.List, d.Seen = slices.Delete(d.List, at, at+1), nil
		l = append(l, d)
	}
	d := copiedDoc(chainDoc().d)
	d.Text = d.Text[:2]
	return append(l, d, impl.Doc{Name: "a", Text: letters(100), List: entries(op(keep(100), put(letters(101)...)))})
}

// badSeen has each number of a request just beyond its limits, and requests of
// which one stands in the wrong place.
func badSeen() []impl.Doc {
	var l []impl.Doc
	with := func(change func(s []impl.Seen) []impl.Seen) {
		for _, from := range []int{500, 0} {
			d := copiedDoc(fullDoc(from).d)
			d.Seen = change(d.Seen)
			l = append(l, d)
		}
	}
	for at := range impl.MaxClients {
		for _, n := range append(farNumbers(), -1, 0, impl.MaxNum+1) {
			with(func(s []impl.Seen) []impl.Seen { s[at].Client = n; return s })
			with(func(s []impl.Seen) []impl.Seen { s[at].Seq = n; return s })
			with(func(s []impl.Seen) []impl.Seen { s[at].Rev = n; return s })
			with(func(s []impl.Seen) []impl.Seen { s[at].Client = n; return s[at : at+1] })
		}
		with(func(s []impl.Seen) []impl.Seen { s[at].Rev = 509; return s })
		with(func(s []impl.Seen) []impl.Seen { s[at].Client = 9; return s })
		with(func(s []impl.Seen) []impl.Seen { return append(s, s[at]) })
		with(func(s []impl.Seen) []impl.Seen { return slices.Insert(s, at, s[at]) })
		with(func(s []impl.Seen) []impl.Seen { return slices.Insert(s[:2], 0, s[7]) })
	}
	for at := range impl.MaxClients - 1 {
		with(func(s []impl.Seen) []impl.Seen { s[at], s[at+1] = s[at+1], s[at]; return s })
		with(func(s []impl.Seen) []impl.Seen { return []impl.Seen{s[at+1], s[at]} })
		with(func(s []impl.Seen) []impl.Seen { s[at].Client = s[at+1].Client; return s })
		with(func(s []impl.Seen) []impl.Seen { return []impl.Seen{s[at], s[at]} })
	}
	with(func(s []impl.Seen) []impl.Seen { slices.Reverse(s); return s })
	with(func(s []impl.Seen) []impl.Seen { return append(s, impl.Seen{Client: 9, Seq: 1, Rev: 1}) })
	with(func(s []impl.Seen) []impl.Seen { return slices.Repeat(s, 100) })
	return append(l, impl.Doc{Name: "a", Seen: []impl.Seen{{Client: 1, Seq: 1, Rev: 1}}}, impl.Doc{Name: "a", Seen: []impl.Seen{{Client: 1, Seq: 1}}}, impl.Doc{Name: "a", Seen: []impl.Seen{{}}})
}

func badDocs() []impl.Doc {
	return slices.Concat([]impl.Doc{{}}, badName(), badFrom(), badText(), badList(), badSeen())
}

func TestP13DocOk(t *testing.T) {
	for _, c := range docCases() {
		if !impl.DocOk(c.d) || !sound(c.d) {
			t.Errorf("DocOk(%v) is %v", c.d, impl.DocOk(c.d))
		}
	}
	for _, d := range badDocs() {
		if impl.DocOk(d) || sound(d) {
			t.Errorf("DocOk(%v) is %v", d, impl.DocOk(d))
		}
	}
}

func TestP13DocOkAtTheLimitsOfFrom(t *testing.T) {
	for _, from := range []int{0, 1, 2, 1000, lastFrom - 1, lastFrom} {
		if d := (impl.Doc{Name: "a", From: from}); !impl.DocOk(d) {
			t.Errorf("DocOk(%v) is false", d)
		}
		if d := fullDoc(from).d; !impl.DocOk(d) {
			t.Errorf("DocOk at From %d with eight entries is false", from)
		}
	}
}

// TestP13DocOkAtTheLimitsOfTheList: each number of entries is valid up to
// MaxWindow.
func TestP13DocOkAtTheLimitsOfTheList(t *testing.T) {
	for n := range 3 * impl.MaxWindow {
		for _, o := range [][]impl.Part{nil, op(keep(1)), op(put(97), drop(1)), op(keep(200))} {
			kept, _, drops := lengths(o)
			d := impl.Doc{Name: "a", Text: letters(kept + drops), List: slices.Repeat(entries(o), n)}
			if want := n <= 8; impl.DocOk(d) != want {
				t.Errorf("DocOk with %d entries %v is %v", n, o, !want)
			}
		}
	}
}

// TestP13DocOkOfGrowingTexts: a text of MaxText characters may stand between
// entries and at the end, and a longer one may not.
func TestP13DocOkOfGrowingTexts(t *testing.T) {
	for n := 150; n <= 250; n++ {
		d := impl.Doc{Name: "a", Text: letters(100), List: entries(op(keep(100), put(letters(n-100)...)))}
		if want := n <= 200; impl.DocOk(d) != want {
			t.Errorf("DocOk with a result of %d characters is %v", n, !want)
		}
		d.List = append(d.List, entries(op(drop(n)))...)
		if want := n <= 200; impl.DocOk(d) != want {
			t.Errorf("DocOk with %d characters between two entries is %v", n, !want)
		}
		d = impl.Doc{Name: "a", Text: letters(n)}
		if want := n <= 200; impl.DocOk(d) != want {
			t.Errorf("DocOk with %d characters is %v", n, !want)
		}
	}
}

// TestP13DocOkOfEverySeen is about the numbers around their limits, for
// documents with and without entries.
func TestP13DocOkOfEverySeen(t *testing.T) {
	for _, d := range []impl.Doc{{Name: "a"}, {Name: "a", From: 3}, {Name: "a", List: entries(nil, nil)}, {Name: "a", From: 3, List: entries(nil, nil)}} {
		head := d.From + len(d.List)
		for client := -1; client <= 10; client++ {
			for rev := -1; rev <= head+2; rev++ {
				for _, seq := range []int{-1, 0, 1, 2, impl.MaxNum - 1, impl.MaxNum, impl.MaxNum + 1} {
					d.Seen = []impl.Seen{{Client: client, Seq: seq, Rev: rev}}
					want := client >= 1 && client <= 8 && seq >= 1 && seq <= 1000000000 && rev >= 1 && rev <= head
					if impl.DocOk(d) != want {
						t.Errorf("DocOk(%v) is %v", d, !want)
					}
				}
			}
		}
	}
}

// TestP13DocOkOfSeenInEveryOrder: of all orders of the clients, only one is
// ascending, however a map of them is visited.
func TestP13DocOkOfSeenInEveryOrder(t *testing.T) {
	d := fullDoc(500).d
	var grow func(done []impl.Seen, left []impl.Seen)
	grow = func(done []impl.Seen, left []impl.Seen) {
		if len(left) == 0 {
			d.Seen = done
			want := slices.IsSortedFunc(done, func(a impl.Seen, b impl.Seen) int { return a.Client - b.Client })
			if impl.DocOk(d) != want {
				t.Fatalf("DocOk with %v is %v", done, !want)
			}
		}
		for i, s := range left {
			grow(append(slices.Clone(done), s), slices.Delete(slices.Clone(left), i, i+1))
		}
	}
	all := slices.Clone(d.Seen)
	d.From, d.Text, d.List = 508, nil, nil
	for n := range impl.MaxClients + 1 {
		grow(nil, all[:n])
	}
}

// TestP13DocOkOfChangedDocs changes one number of a valid document.
func TestP13DocOkOfChangedDocs(t *testing.T) {
	r := rand.New(rand.NewSource(32))
	good, bad := 0, 0
	check := func(d impl.Doc) {
		t.Helper()
		want := sound(d)
		if impl.DocOk(d) != want {
			t.Fatalf("DocOk(%v) is %v", d, !want)
		}
		if want {
			good++
		} else {
			bad++
		}
	}
	for range 3000 {
		d := copiedDoc(randomDoc(r).d)
		if len(d.List) > 0 {
			e := &d.List[r.Intn(len(d.List))]
			*[]*int{&e.Client, &e.Seq, &d.From}[r.Intn(3)] += r.Intn(5) - 2
			if len(e.O) > 0 && r.Intn(3) == 0 {
				p := &e.O[r.Intn(len(e.O))]
				*[]*int{&p.N, &p.Kind}[r.Intn(2)] += r.Intn(3) - 1
			}
		}
		if len(d.Seen) > 0 {
			s := &d.Seen[r.Intn(len(d.Seen))]
			*[]*int{&s.Client, &s.Seq, &s.Rev}[r.Intn(3)] += r.Intn(5) - 2
		}
		check(d)
	}
	if good < 300 || bad < 300 {
		t.Errorf("the documents are one-sided: %d and %d", good, bad)
	}
}

// newCase is a name and a text with whether they make a document.
type newCase struct {
	name string
	text []int
	ok   bool
}

func newCases() []newCase {
	return []newCase{
		{"a", nil, true}, {"a", []int{}, true}, {"z", []int{97}, true}, {"abcdefgh", numbered(impl.MaxText), true},
		{"abc", []int{0, 55295, 57344, impl.MaxSign}, true}, {"ab", numbered(impl.MaxText - 1), true},
		{"", nil, false}, {"", []int{97}, false}, {"abcdefghi", nil, false}, {"A", []int{97}, false}, {"a1", []int{97}, false}, {"\xc3\xa9", nil, false},
		{"a", numbered(impl.MaxText + 1), false}, {"a", []int{-1}, false}, {"a", []int{97, 55296}, false}, {"a", []int{impl.MaxSign + 1, 97}, false},
		{"", numbered(impl.MaxText + 1), false}, {"a b", []int{-1}, false},
	}
}

func TestP13DocNew(t *testing.T) {
	for _, c := range newCases() {
		d, ok := impl.DocNew(c.name, c.text)
		want := impl.Doc{}
		if c.ok {
			want = impl.Doc{Name: c.name, Text: c.text}
		}
		if ok != c.ok || !docAlike(d, want) {
			t.Errorf("DocNew(%q, %v): %v %v", c.name, c.text, d, ok)
		}
		if !ok {
			continue
		}
		text, fine := impl.TextAt(d, 0)
		if !impl.DocOk(d) || impl.HeadRev(d) != 0 || !fine || !slices.Equal(text, c.text) || !slices.Equal(impl.HeadText(d), c.text) {
			t.Errorf("DocNew(%q, %v) has another text: %v %v", c.name, c.text, text, fine)
		}
	}
	for _, text := range badTexts() {
		if d, ok := impl.DocNew("a", text); ok || !isZeroDoc(d) {
			t.Errorf("DocNew with %d bad characters: %v %v", len(text), d, ok)
		}
	}
	for _, d := range badName() {
		if got, ok := impl.DocNew(d.Name, letters(3)); ok || !isZeroDoc(got) {
			t.Errorf("DocNew(%q): %v %v", d.Name, got, ok)
		}
	}
}

// TestP13HeadRev is also about documents that are not valid.
func TestP13HeadRev(t *testing.T) {
	cases := []struct {
		d    impl.Doc
		want int
	}{
		{impl.Doc{}, 0},
		{impl.Doc{Name: "a"}, 0},
		{impl.Doc{Name: "a", From: 7}, 7},
		{impl.Doc{Name: "a", List: entries(nil)}, 1},
		{impl.Doc{Name: "a", From: 7, List: entries(nil, nil, nil)}, 10},
		{chainDoc().d, 9},
		{fullDoc(0).d, 8},
		{fullDoc(lastFrom).d, 999999008},
		{impl.Doc{From: -5, List: entries(nil, nil, nil)}, -2},
		{impl.Doc{From: -1, List: entries(nil)}, 0},
		{impl.Doc{Name: "A", From: 4, List: entries(op(keep(-1)), nil)}, 6},
		{impl.Doc{From: impl.MaxNum, List: make([]impl.Entry, 20)}, 1000000020},
		{impl.Doc{From: math.MinInt}, math.MinInt},
		{impl.Doc{From: math.MaxInt}, math.MaxInt},
		{impl.Doc{Name: "a", Text: []int{-1}, Seen: []impl.Seen{{Client: 1, Seq: 1, Rev: 99}}}, 0},
	}
	for _, c := range cases {
		if got := impl.HeadRev(c.d); got != c.want {
			t.Errorf("HeadRev(%v): %d, not %d", c.d, got, c.want)
		}
	}
	for _, d := range badDocs() {
		if got := impl.HeadRev(d); got != d.From+len(d.List) {
			t.Errorf("HeadRev(%v): %d", d, got)
		}
	}
}

// refusesRev checks that there is no revision rev in d.
func refusesRev(t *testing.T, d impl.Doc, rev int) {
	t.Helper()
	if text, ok := impl.TextAt(d, rev); ok || len(text) != 0 {
		t.Errorf("TextAt(%v, %d): %v %v", d, rev, text, ok)
	}
	if ops, ok := impl.OpsSince(d, rev); ok || len(ops) != 0 {
		t.Errorf("OpsSince(%v, %d): %v %v", d, rev, ops, ok)
	}
}

// checkRevs checks all revisions of a document, and those around them.
func checkRevs(t *testing.T, c docCase) {
	t.Helper()
	var ops [][]impl.Part
	for _, e := range c.d.List {
		ops = append(ops, e.O)
	}
	for i, want := range c.texts {
		rev := c.d.From + i
		text, ok := impl.TextAt(c.d, rev)
		if !ok || !slices.Equal(text, want) {
			t.Errorf("TextAt(%v, %d): %v %v, not %v", c.d, rev, text, ok, want)
		}
		since, fine := impl.OpsSince(c.d, rev)
		if !fine || !alikeAll(since, ops[i:]) {
			t.Errorf("OpsSince(%v, %d): %v %v, not %v", c.d, rev, since, fine, ops[i:])
		}
		head, applied := impl.ApplyAll(since, text)
		if !applied || !slices.Equal(head, c.texts[len(ops)]) {
			t.Errorf("the operations of %v after %d lead to %v %v", c.d, rev, head, applied)
		}
	}
	if got := impl.HeadText(c.d); !slices.Equal(got, c.texts[len(ops)]) {
		t.Errorf("HeadText(%v): %v", c.d, got)
	}
	for _, rev := range append(farNumbers(), c.d.From-2, c.d.From-1, c.d.From+len(ops)+1, c.d.From+len(ops)+2) {
		refusesRev(t, c.d, rev)
	}
	if c.d.From > 0 {
		refusesRev(t, c.d, 0)
	}
}

func TestP13Revisions(t *testing.T) {
	for _, c := range docCases() {
		if impl.HeadRev(c.d) != c.d.From+len(c.texts)-1 {
			t.Errorf("HeadRev(%v): %d", c.d, impl.HeadRev(c.d))
		}
		checkRevs(t, c)
	}
	checkRevs(t, fullDoc(lastFrom))
}

func TestP13RevisionsOfBadDocs(t *testing.T) {
	for _, d := range badDocs() {
		from, head := d.From, d.From+len(d.List)
		for _, rev := range []int{-1, 0, 1, from - 1, from, from + 1, head - 1, head, head + 1} {
			refusesRev(t, d, rev)
		}
		if text := impl.HeadText(d); len(text) != 0 {
			t.Errorf("HeadText(%v): %v", d, text)
		}
	}
}

func checkSeenOf(t *testing.T, d impl.Doc, client int) {
	t.Helper()
	want := impl.Seen{}
	at := slices.IndexFunc(d.Seen, func(s impl.Seen) bool { return s.Client == client })
	if at >= 0 {
		want = d.Seen[at]
	}
	if got, ok := impl.SeenOf(d, client); ok != (at >= 0) || got != want {
		t.Errorf("SeenOf(%v, %d): %v %v, not %v", d.Seen, client, got, ok, want)
	}
}

func TestP13SeenOf(t *testing.T) {
	d := chainDoc().d
	for client, want := range map[int]impl.Seen{1: {Client: 1, Seq: 10, Rev: 6}, 3: {Client: 3, Seq: 12, Rev: 8}, 6: {Client: 6, Seq: impl.MaxNum, Rev: 1}, 8: {Client: 8, Seq: 1, Rev: 9}} {
		if got, ok := impl.SeenOf(d, client); !ok || got != want {
			t.Errorf("SeenOf(%d): %v %v, not %v", client, got, ok, want)
		}
	}
	for _, client := range append(farNumbers(), -1, 0, 2, 4, 5, 7, 9, 10, impl.MaxNum) {
		if got, ok := impl.SeenOf(d, client); ok || got != (impl.Seen{}) {
			t.Errorf("SeenOf(%d): %v %v", client, got, ok)
		}
	}
	docs := badDocs()
	for _, c := range docCases() {
		docs = append(docs, c.d)
	}
	for _, d := range docs {
		for client := -2; client <= 11; client++ {
			checkSeenOf(t, d, client)
		}
		for _, client := range farNumbers() {
			checkSeenOf(t, d, client)
		}
	}
}

// TestP13SeenOfClientsThatStandTwice: the first element counts, also if the
// clients are not in order, and whatever numbers it has.
func TestP13SeenOfClientsThatStandTwice(t *testing.T) {
	l := []impl.Seen{
		{Client: 5, Seq: 9, Rev: 9}, {Client: 2, Seq: 8, Rev: 8}, {Client: 5, Seq: 7, Rev: 7}, {Client: 2, Seq: 99, Rev: 99}, {Client: 5, Seq: 6, Rev: 6},
		{}, {Client: 0, Seq: 3, Rev: 3}, {Client: -4, Seq: -1, Rev: -1}, {Client: -4, Seq: 1, Rev: 1}, {Client: 1, Seq: 1, Rev: 1},
		{Client: math.MaxInt, Seq: 2, Rev: 2}, {Client: math.MinInt, Seq: 4, Rev: 4}, {Client: math.MaxInt, Seq: 5, Rev: 5},
	}
	for _, d := range []impl.Doc{{Seen: l}, {Name: "a", From: 20, Seen: l}, {Name: "a", From: 20, Seen: l[:5]}, {Name: "A", From: -1, Text: []int{-1}, Seen: l}} {
		for range 50 {
			for client, want := range map[int]impl.Seen{5: l[0], 2: l[1]} {
				if got, ok := impl.SeenOf(d, client); !ok || got != want {
					t.Fatalf("SeenOf(%d): %v %v, not %v", client, got, ok, want)
				}
			}
			if len(d.Seen) < len(l) {
				continue
			}
			for client, want := range map[int]impl.Seen{0: l[5], -4: l[7], 1: l[9], math.MaxInt: l[10], math.MinInt: l[11]} {
				if got, ok := impl.SeenOf(d, client); !ok || got != want {
					t.Fatalf("SeenOf(%d): %v %v, not %v", client, got, ok, want)
				}
			}
		}
	}
	r := rand.New(rand.NewSource(33))
	for range 300 {
		var d impl.Doc
		for range r.Intn(30) {
			d.Seen = append(d.Seen, impl.Seen{Client: r.Intn(10), Seq: r.Intn(1000), Rev: r.Intn(1000)})
		}
		for client := range 11 {
			checkSeenOf(t, d, client)
		}
	}
}

// checkForget checks all that the document says of Forget of a valid document.
func checkForget(t *testing.T, c docCase, n int) {
	t.Helper()
	gone := max(0, len(c.d.List)-n)
	want := copiedDoc(c.d)
	want.From, want.Text, want.List = want.From+gone, c.texts[gone], want.List[gone:]
	got, ok := impl.Forget(c.d, n)
	if !ok || !docAlike(got, want) {
		t.Fatalf("Forget(%v, %d): %v %v, not %v", c.d, n, got, ok, want)
	}
	if impl.HeadRev(got) != impl.HeadRev(c.d) {
		t.Fatalf("Forget(%v, %d) has the revision %d", c.d, n, impl.HeadRev(got))
	}
	if got.From > lastFrom {
		return
	}
	if !impl.DocOk(got) || !slices.Equal(impl.HeadText(got), impl.HeadText(c.d)) {
		t.Fatalf("Forget(%v, %d) has another text: %v", c.d, n, got)
	}
	checkRevs(t, docCase{got, c.texts[gone:]})
	for client := range 10 {
		was, there := impl.SeenOf(c.d, client)
		if s, still := impl.SeenOf(got, client); s != was || still != there {
			t.Fatalf("Forget(%v, %d) changes the request of %d: %v %v", c.d, n, client, s, still)
		}
	}
}

func TestP7ForgetChangesNoText(t *testing.T) {
	for _, c := range docCases() {
		for n := range len(c.d.List) + 3 {
			checkForget(t, c, n)
		}
		for _, n := range []int{8, 9, 100, impl.MaxNum, math.MaxInt - 1, math.MaxInt} {
			checkForget(t, c, n)
			if got, ok := impl.Forget(c.d, n); !ok || !impl.DocSame(got, c.d) {
				t.Errorf("Forget(%v, %d) is no copy: %v %v", c.d, n, got, ok)
			}
		}
	}
}

func TestP7ForgetWrittenOut(t *testing.T) {
	c := chainDoc()
	ops, _ := chain()
	want := []impl.Doc{
		{Name: "abc", From: 9, Text: []int{68, 66, 69}, Seen: c.d.Seen},
		{Name: "abc", From: 8, Text: []int{66, 67}, List: []impl.Entry{{Client: 4, Seq: 13, O: op(put(68), keep(1), put(69), drop(1))}}, Seen: c.d.Seen},
		{Name: "abc", From: 7, Text: []int{97, 65, 99, 66, 67}, List: []impl.Entry{{Client: 3, Seq: 12, O: op(drop(3), keep(2))}, {Client: 4, Seq: 13, O: stepwiseNorm(ops[3])}}, Seen: c.d.Seen},
		{Name: "abc", From: 6, Text: []int{97, 65, 99}, List: c.d.List[1:], Seen: c.d.Seen},
		c.d,
		c.d,
	}
	for n, d := range want {
		if got, ok := impl.Forget(c.d, n); !ok || !docAlike(got, d) {
			t.Errorf("Forget(%d): %v %v, not %v", n, got, ok, d)
		}
	}
}

// TestP7ForgetInSteps: to forget entries at once is the same as one by one.
func TestP7ForgetInSteps(t *testing.T) {
	for _, c := range docCases() {
		now := c.d
		for n := len(c.d.List); n >= 0; n-- {
			next, ok := impl.Forget(now, n)
			once, fine := impl.Forget(c.d, n)
			if !ok || !fine || !docAlike(next, once) || !impl.DocSame(next, once) {
				t.Fatalf("Forget(%v, %d): %v in steps, %v at once", c.d, n, next, once)
			}
			now = next
		}
	}
}

func TestP13ForgetRefuses(t *testing.T) {
	for _, c := range docCases() {
		for _, n := range []int{-1, -2, -8, -impl.MaxNum, math.MinInt, math.MinInt + 1} {
			if got, ok := impl.Forget(c.d, n); ok || !isZeroDoc(got) {
				t.Errorf("Forget(%v, %d): %v %v", c.d, n, got, ok)
			}
		}
	}
	for _, d := range badDocs() {
		for _, n := range []int{-1, 0, 1, len(d.List) - 1, len(d.List), len(d.List) + 1, 8, math.MaxInt} {
			if got, ok := impl.Forget(d, n); ok || !isZeroDoc(got) {
				t.Errorf("Forget(%v, %d): %v %v", d, n, got, ok)
			}
		}
	}
}

// TestP13ForgetBeyondTheLastFrom: the document names no further condition, so
// that the result has a From that is not valid any more.
func TestP13ForgetBeyondTheLastFrom(t *testing.T) {
	for back := range 10 {
		c := fullDoc(lastFrom - back)
		for n := range 10 {
			checkForget(t, c, n)
			got, _ := impl.Forget(c.d, n)
			if impl.DocOk(got) != (got.From <= lastFrom) {
				t.Errorf("DocOk at From %d is %v", got.From, impl.DocOk(got))
			}
		}
	}
}

// changedDocs are copies of a document with eight entries and eight requests,
// of which each differs in one place.
func changedDocs() []impl.Doc {
	var l []impl.Doc
	with := func(change func(d *impl.Doc)) {
		d := copiedDoc(fullDoc(500).d)
		change(&d)
		l = append(l, d)
	}
	for _, name := range []string{"", "a", "abcdefg", "abcdefga", "Abcdefgz", "abcdefgzz"} {
		with(func(d *impl.Doc) { d.Name = name })
	}
	for _, from := range append(farNumbers(), -500, 0, 499, 501, 500+1<<32) {
		with(func(d *impl.Doc) { d.From = from })
	}
	for _, at := range []int{0, 1, 100, impl.MaxText - 1} {
		with(func(d *impl.Doc) { d.Text[at]++ })
		with(func(d *impl.Doc) { d.Text[at] += 1 << 32 })
		with(func(d *impl.Doc) { d.Text = slices.Delete(d.Text, at, at+1) })
	}
	for at := range impl.MaxWindow {
		with(func(d *impl.Doc) { d.List[at].Client++ })
		with(func(d *impl.Doc) { d.List[at].Seq-- })
		with(func(d *impl.Doc) { d.List[at].O = append(d.List[at].O, keep(0)) })
		with(func(d *impl.Doc) { d.List = slices.Delete(d.List, at, at+1) })
		with(func(d *impl.Doc) { d.List = d.List[:at] })
		with(func(d *impl.Doc) { d.Seen[at].Client++ })
		with(func(d *impl.Doc) { d.Seen[at].Seq-- })
		with(func(d *impl.Doc) { d.Seen[at].Rev++ })
		with(func(d *impl.Doc) { d.Seen = slices.Delete(d.Seen, at, at+1) })
		with(func(d *impl.Doc) { d.Seen = d.Seen[:at] })
	}
	for at := range impl.MaxWindow - 1 {
		with(func(d *impl.Doc) { d.List[at], d.List[at+1] = d.List[at+1], d.List[at] })
		with(func(d *impl.Doc) { d.Seen[at], d.Seen[at+1] = d.Seen[at+1], d.Seen[at] })
	}
	with(func(d *impl.Doc) { d.Text = append(d.Text, 97) })
	with(func(d *impl.Doc) { d.Text = nil })
	with(func(d *impl.Doc) { d.List = append(d.List, d.List[7]) })
	with(func(d *impl.Doc) { d.Seen = append(d.Seen, d.Seen[7]) })
	with(func(d *impl.Doc) { d.List[3].O[0].Signs[5]++ })
	with(func(d *impl.Doc) { d.List[0].O[0].N-- })
	return append(l, impl.Doc{})
}

func TestP13DocSame(t *testing.T) {
	d := fullDoc(500).d
	for _, other := range changedDocs() {
		if impl.DocSame(d, other) || impl.DocSame(other, d) {
			t.Errorf("DocSame of %v is true", other)
		}
	}
	docs := append(badDocs(), changedDocs()...)
	for _, c := range docCases() {
		docs = append(docs, c.d)
	}
	for i, d := range docs {
		if !impl.DocSame(d, d) || !impl.DocSame(d, copiedDoc(d)) || !impl.DocSame(copiedDoc(d), d) {
			t.Errorf("DocSame of %v and itself is false", d)
		}
		other := docs[(i*7+1)%len(docs)]
		if impl.DocSame(d, other) != docAlike(d, other) {
			t.Errorf("DocSame(%v, %v) is %v", d, other, impl.DocSame(d, other))
		}
	}
}

// withNone returns d with empty lists, nil or not, in the place of all empty
// lists.
func withNone(d impl.Doc, nils bool) impl.Doc {
	d = copiedDoc(d)
	var none []int
	var noList []impl.Entry
	var noSeen []impl.Seen
	var noParts []impl.Part
	if !nils {
		none, noList, noSeen, noParts = []int{}, []impl.Entry{}, []impl.Seen{}, []impl.Part{}
	}
	d.Text, d.List, d.Seen = append(none, d.Text...), append(noList, d.List...), append(noSeen, d.Seen...)
	for i, e := range d.List {
		d.List[i].O = append(noParts, emptied(e.O, none)...)
	}
	return d
}

func TestP13DocNilAndEmptyAreEqual(t *testing.T) {
	for _, c := range docCases() {
		absent, empty := withNone(c.d, true), withNone(c.d, false)
		if !impl.DocSame(absent, empty) || !impl.DocSame(empty, absent) || !impl.DocSame(empty, c.d) {
			t.Errorf("%v and %v differ", absent, empty)
		}
		for i := range c.d.List {
			if !impl.EntryOk(absent.List[i]) || !impl.EntryOk(empty.List[i]) || !impl.EntrySame(absent.List[i], empty.List[i]) {
				t.Errorf("%v and %v differ", absent.List[i], empty.List[i])
			}
		}
		for _, d := range []impl.Doc{absent, empty} {
			if !impl.DocOk(d) {
				t.Errorf("DocOk(%v) is false", d)
			}
			checkRevs(t, docCase{d, c.texts})
			for n := range len(c.d.List) + 1 {
				checkForget(t, docCase{d, c.texts}, n)
			}
		}
	}
	absent, ok := impl.DocNew("a", nil)
	empty, fine := impl.DocNew("a", []int{})
	if !ok || !fine || !impl.DocSame(absent, empty) {
		t.Errorf("DocNew without a text: %v %v, %v %v", absent, ok, empty, fine)
	}
}

// TestP13DocResultsAreAlwaysTheSame: a map is visited in another order at every
// call.
func TestP13DocResultsAreAlwaysTheSame(t *testing.T) {
	c := fullDoc(500)
	swapped := copiedDoc(c.d)
	swapped.Seen[3], swapped.Seen[4] = swapped.Seen[4], swapped.Seen[3]
	twice := copiedDoc(c.d)
	twice.Seen[4].Client = twice.Seen[3].Client
	for range 500 {
		if !impl.DocOk(c.d) || impl.DocOk(swapped) || impl.DocOk(twice) {
			t.Fatal("DocOk depends on the order of a map")
		}
		if !impl.DocSame(c.d, c.d) || impl.DocSame(c.d, swapped) {
			t.Fatal("DocSame depends on the order of a map")
		}
		if s, ok := impl.SeenOf(twice, 4); !ok || s != twice.Seen[3] {
			t.Fatalf("SeenOf depends on the order of a map: %v %v", s, ok)
		}
		if d, ok := impl.Forget(c.d, 3); !ok || !slices.Equal(d.Seen, c.d.Seen) {
			t.Fatalf("Forget depends on the order of a map: %v %v", d.Seen, ok)
		}
	}
}

// sparedDoc returns a deep copy of d with spare capacity behind every slice,
// and a check that none of it was written.
func sparedDoc(d impl.Doc) (impl.Doc, func() bool) {
	whole := copiedDoc(d)
	text, keptText := spared(d.Text)
	checks := []func() bool{keptText}
	for i, e := range whole.List {
		o, kept := sparedOp(e.O)
		whole.List[i].O, checks = o, append(checks, kept)
	}
	whole.List = append(whole.List, entries(op(keep(9)), op(put(99)))...)
	whole.Seen = append(whole.Seen, impl.Seen{Client: 77, Seq: 78, Rev: 79})
	wantedList, wantedSeen := copiedDoc(whole).List, slices.Clone(whole.Seen)
	result := whole
	result.Text, result.List, result.Seen = text, whole.List[:len(d.List)], whole.Seen[:len(d.Seen)]
	return result, func() bool {
		for _, kept := range checks {
			if !kept() {
				return false
			}
		}
		return slices.EqualFunc(whole.List, wantedList, entryAlike) && slices.Equal(whole.Seen, wantedSeen)
	}
}

// spoilDoc overwrites every slice of d up to its capacity.
func spoilDoc(d impl.Doc) {
	spoil(d.Text)
	for _, e := range d.List {
		spoilOp(e.O)
	}
	clear(d.List[:cap(d.List)])
	clear(d.Seen[:cap(d.Seen)])
}

func TestP13DocArgumentsAreNotChanged(t *testing.T) {
	docs := append(badDocs(), changedDocs()...)
	for _, c := range docCases() {
		docs = append(docs, c.d)
	}
	for _, own := range docs {
		d, kept := sparedDoc(own)
		other, keptOther := sparedDoc(own)
		impl.DocOk(d)
		impl.DocSame(d, other)
		impl.DocNew(d.Name, d.Text)
		impl.HeadRev(d)
		impl.HeadText(d)
		for _, n := range []int{d.From - 1, d.From, d.From + 1, d.From + len(d.List), d.From + len(d.List) + 1} {
			impl.TextAt(d, n)
			impl.OpsSince(d, n)
		}
		for n := -1; n < 10; n++ {
			impl.Forget(d, n)
			impl.SeenOf(d, n)
		}
		for i, e := range d.List {
			impl.EntryOk(e)
			impl.EntrySame(e, other.List[i])
		}
		if !kept() || !keptOther() {
			t.Errorf("an argument was changed: %v", own)
		}
	}
}

// separateDoc reports whether no two slices of d share memory. It overwrites
// all of them, up to their capacity.
func separateDoc(d impl.Doc) bool {
	// The text is looked at as the characters of one more operation.
	ops := [][]impl.Part{op(put(d.Text...))}
	for _, e := range d.List {
		ops = append(ops, e.O)
	}
	return separateOps(ops...)
}

func TestP13DocNewSharesNothing(t *testing.T) {
	for _, c := range newCases() {
		text, kept := spared(c.text)
		name := strings.Clone(c.name)
		spoiled, _ := impl.DocNew(name, text)
		d, ok := impl.DocNew(name, text)
		spoilDoc(spoiled)
		if !kept() || ok && !slices.Equal(d.Text, c.text) || within(d.Name, name) {
			t.Errorf("DocNew(%q, %v) shares memory with an argument or with another result", c.name, c.text)
		}
		spoil(text)
		if ok && !slices.Equal(d.Text, c.text) {
			t.Errorf("DocNew(%q, %v) depends on its argument after the call", c.name, c.text)
		}
	}
}

func TestP13TextsShareNothing(t *testing.T) {
	for _, c := range docCases() {
		for i, want := range c.texts {
			d, kept := sparedDoc(c.d)
			spoiled, _ := impl.TextAt(d, d.From+i)
			text, _ := impl.TextAt(d, d.From+i)
			spoiledHead := impl.HeadText(d)
			head := impl.HeadText(d)
			spoil(spoiled)
			spoil(spoiledHead)
			if !kept() || !slices.Equal(text, want) || !slices.Equal(head, c.texts[len(d.List)]) {
				t.Errorf("a text of %v shares memory with the document or with another result", c.d)
			}
			spoilDoc(d)
			if !slices.Equal(text, want) || !slices.Equal(head, c.texts[len(c.texts)-1]) {
				t.Errorf("a text of %v depends on the document after the call", c.d)
			}
		}
	}
}

func TestP13OpsSinceSharesNothing(t *testing.T) {
	for _, c := range docCases() {
		for i := range c.texts {
			d, kept := sparedDoc(c.d)
			spoiled, _ := impl.OpsSince(d, d.From+i)
			ops, _ := impl.OpsSince(d, d.From+i)
			same := func() bool {
				return slices.EqualFunc(ops, c.d.List[i:], func(o []impl.Part, e impl.Entry) bool { return alike(o, e.O) })
			}
			if !separateOps(spoiled...) {
				t.Errorf("two operations of OpsSince of %v share memory", c.d)
			}
			clear(spoiled[:cap(spoiled)])
			if !kept() || !same() {
				t.Errorf("OpsSince of %v shares memory with the document or with another result", c.d)
			}
			spoilDoc(d)
			if !same() {
				t.Errorf("OpsSince of %v depends on the document after the call", c.d)
			}
		}
	}
}

func TestP13ForgetSharesNothing(t *testing.T) {
	for _, c := range docCases() {
		for n := range len(c.d.List) + 2 {
			d, kept := sparedDoc(c.d)
			spoiled, _ := impl.Forget(d, n)
			got, _ := impl.Forget(d, n)
			want := copiedDoc(got)
			if within(got.Name, d.Name) {
				t.Errorf("Forget(%v, %d) shares the name", c.d, n)
			}
			if !separateDoc(spoiled) {
				t.Errorf("Forget(%v, %d): two slices share memory", c.d, n)
			}
			spoilDoc(spoiled)
			if !kept() || !docAlike(got, want) {
				t.Errorf("Forget(%v, %d) shares memory with its argument or with another result", c.d, n)
			}
			spoilDoc(d)
			if !docAlike(got, want) {
				t.Errorf("Forget(%v, %d) depends on its argument after the call", c.d, n)
			}
		}
	}
}

// TestP13DocOfOneList is about a document whose text and characters are parts
// of one list, and whose entries have one operation.
func TestP13DocOfOneList(t *testing.T) {
	all := letters(6)
	o := op(put(all[1:3]...), drop(2), keep(1))
	c := docCase{impl.Doc{Name: "a", Text: all[:3], List: entries(o, o, o)}, [][]int{{97, 98, 99}, {98, 99, 99}, {98, 99, 99}, {98, 99, 99}}}
	checkRevs(t, c)
	for n := range 4 {
		checkForget(t, c, n)
		got, _ := impl.Forget(c.d, n)
		if !separateDoc(got) {
			t.Errorf("Forget(%d): two slices share memory", n)
		}
	}
	ops, ok := impl.OpsSince(c.d, 0)
	if !ok || !alikeAll(ops, [][]impl.Part{o, o, o}) || !separateOps(ops...) {
		t.Errorf("two operations of OpsSince share memory: %v %v", ops, ok)
	}
	if !slices.Equal(all, letters(6)) || !alike(o, op(put(98, 99), drop(2), keep(1))) {
		t.Errorf("the characters became %v, the operation %v", all, o)
	}
}
