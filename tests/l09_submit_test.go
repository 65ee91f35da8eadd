package tests

import (
	"math"
	"math/rand"
	"slices"
	"strings"
	"testing"

	"loop.example/g00797/impl"
)

// request is what a client submits to a document.
type request struct {
	client, seq, base int
	o                 []impl.Part
}

// modelRebase follows the document's words for Rebase, character by character
// and without the functions of the chapters on documents and on committing.
func modelRebase(d impl.Doc, base int, o []impl.Part) ([]impl.Part, int) {
	switch {
	case !sound(d) || !impl.OpOk(o):
		return nil, impl.OtInvalid
	case base > d.From+len(d.List):
		return nil, impl.OtFuture
	case base < d.From:
		return nil, impl.OtOld
	}
	text := d.Text
	for _, e := range d.List[:base-d.From] {
		text = effect(e.O, text)
	}
	if kept, _, drops := lengths(o); kept+drops != len(text) {
		return nil, impl.OtInvalid
	}
	v := stepwiseNorm(o)
	for _, e := range d.List[base-d.From:] {
		text = effect(e.O, text)
		_, v = stepwiseTransform(e.O, v)
		if len(effect(v, text)) > 200 {
			return nil, impl.OtLarge
		}
	}
	return v, impl.OtOk
}

// modelSubmit follows the document's words for Submit in the same way.
func modelSubmit(d impl.Doc, q request) (impl.Doc, int, int) {
	if !sound(d) || q.client < 1 || q.client > 8 || q.seq < 1 || q.seq > 1000000000 || !impl.OpOk(q.o) {
		return impl.Doc{}, 0, impl.OtInvalid
	}
	next := copiedDoc(d)
	head := d.From + len(d.List)
	at := 0
	for at < len(d.Seen) && d.Seen[at].Client < q.client {
		at++
	}
	last := impl.Seen{}
	if at < len(d.Seen) && d.Seen[at].Client == q.client {
		last = d.Seen[at]
		next.Seen = slices.Delete(next.Seen, at, at+1)
	}
	if q.seq == last.Seq {
		return copiedDoc(d), last.Rev, impl.OtOk
	}
	if q.seq != last.Seq+1 {
		return impl.Doc{}, 0, impl.OtSeq
	}
	v, code := modelRebase(d, q.base, q.o)
	if code != impl.OtOk {
		return impl.Doc{}, 0, code
	}
	if head >= 999999000 {
		return impl.Doc{}, 0, impl.OtLarge
	}
	next.Seen = slices.Insert(next.Seen, at, impl.Seen{Client: q.client, Seq: q.seq, Rev: head + 1})
	next.List = append(next.List, impl.Entry{Client: q.client, Seq: q.seq, O: v})
	if len(next.List) > 8 {
		next.From, next.Text, next.List = d.From+1, effect(d.List[0].O, d.Text), next.List[1:]
	}
	return next, head + 1, impl.OtOk
}

// checkRebase compares Rebase with the model, and returns the code.
func checkRebase(t *testing.T, d impl.Doc, base int, o []impl.Part) int {
	t.Helper()
	want, code := modelRebase(d, base, o)
	got, told := impl.Rebase(d, base, o)
	if told != code || !alike(got, want) {
		t.Fatalf("Rebase(%v, %d, %v): %v %d, not %v %d", d, base, o, got, told, want, code)
	}
	return code
}

// checkSubmit compares Submit with the model, and returns the code.
func checkSubmit(t *testing.T, d impl.Doc, q request) int {
	t.Helper()
	want, rev, code := modelSubmit(d, q)
	got, at, told := impl.Submit(d, q.client, q.seq, q.base, q.o)
	if told != code || at != rev || !docAlike(got, want) {
		t.Fatalf("Submit(%v, %v): %v %d %d, not %v %d %d", d, q, got, at, told, want, rev, code)
	}
	return code
}

// rejects checks that a request is rejected with this code.
func rejects(t *testing.T, d impl.Doc, q request, code int) {
	t.Helper()
	got, rev, told := impl.Submit(d, q.client, q.seq, q.base, q.o)
	if told != code || rev != 0 || !isZeroDoc(got) {
		t.Errorf("Submit(%v, %v): %v %d %d, not the code %d", d, q, got, rev, told, code)
	}
}

// refusesRebase checks that Rebase returns this code.
func refusesRebase(t *testing.T, d impl.Doc, base int, o []impl.Part, code int) {
	t.Helper()
	if got, told := impl.Rebase(d, base, o); told != code || len(got) != 0 {
		t.Errorf("Rebase(%v, %d, %v): %v %d, not the code %d", d, base, o, got, told, code)
	}
}

// nextSeq returns the only Seq with which the client can commit an operation.
func nextSeq(d impl.Doc, client int) int {
	for _, s := range d.Seen {
		if s.Client == client {
			return s.Seq + 1
		}
	}
	return 1
}

// opsAround returns operations on n characters, and some that do not fit or
// are not OpOk.
func opsAround(r *rand.Rand, n int) [][]impl.Part {
	full := numbered(impl.MaxText)
	fits := [][]impl.Part{
		op(keep(n)), op(drop(n)), op(put(65), keep(n)), op(keep(n), put(66)), op(drop(n), put(67, 68)), op(put(full[n:]...), keep(n)),
		op(keep(n/2), put(69), keep(n-n/2)), op(keep(n/2), drop(n-n/2), put(70)), op(keep(n/2), keep(n-n/2), put(), drop(0)),
		op(drop(n), put(full...)), repeated(keep(0), impl.MaxParts),
	}
	for range 4 {
		fits = append(fits, randomOpOn(r, n), mildOpOn(r, n))
	}
	return append(fits, failsOn(n)...)
}

// hasCodes checks that each of these codes was seen, and no other one.
func hasCodes(t *testing.T, seen map[int]int, codes ...int) {
	t.Helper()
	for _, code := range codes {
		if seen[code] < 50 {
			t.Errorf("the cases are one-sided: %v", seen)
		}
	}
	if len(seen) != len(codes) {
		t.Errorf("there are other codes: %v", seen)
	}
}

func TestP13OtConstants(t *testing.T) {
	codes := []int{
		impl.OtOk, impl.OtInvalid, impl.OtFuture, impl.OtOld, impl.OtSeq, impl.OtLarge, impl.OtNoDoc,
		impl.OtHave, impl.OtNoSub, impl.OtEvicted, impl.OtFull, impl.OtBusy, impl.OtClosed,
	}
	for want, code := range codes {
		if code != want {
			t.Errorf("a code is %d, not %d", code, want)
		}
	}
}

func TestP13OtName(t *testing.T) {
	names := []string{"ok", "invalid", "future", "old", "seq", "large", "nodoc", "have", "nosub", "evicted", "full", "busy", "closed"}
	for code, want := range names {
		if got := impl.OtName(code); got != want {
			t.Errorf("OtName(%d): %q, not %q", code, got, want)
		}
	}
	for _, code := range append(farNumbers(), -1, -2, -12, -13, 13, 14, 26, 100, 255, 256, 257, 65536, 1<<32, 1<<63-1, impl.MaxNum) {
		if got := impl.OtName(code); got != "" {
			t.Errorf("OtName(%d): %q", code, got)
		}
	}
}

// TestP7RebaseWrittenOut leads the same operation past more and more entries.
func TestP7RebaseWrittenOut(t *testing.T) {
	d := chainDoc().d
	_, becomes := chainPast()
	for i, o := range becomes {
		if got, code := impl.Rebase(d, 5+i, o); code != impl.OtOk || !alike(got, becomes[4]) {
			t.Errorf("Rebase of %v from %d: %v %d", o, 5+i, got, code)
		}
	}
	d = impl.Doc{Name: "a", From: 3, Text: letters(4), List: entries(op(keep(2), put(65), keep(2)), op(drop(1), keep(4)))}
	cases := []struct {
		base    int
		o, want []impl.Part
	}{
		{3, op(keep(4)), op(keep(4))},
		{3, op(put(66), keep(4)), op(put(66), keep(4))},
		{3, op(keep(1), put(66), keep(3)), op(put(66), keep(4))},
		{3, op(keep(2), put(66), keep(2)), op(keep(2), put(66), keep(2))},
		{3, op(keep(3), put(66), keep(1)), op(keep(3), put(66), keep(1))},
		{3, op(drop(4)), op(drop(1), keep(1), drop(2))},
		{3, op(drop(1), keep(3)), op(keep(4))},
		{3, op(drop(2), put(66, 67), drop(2)), op(put(66, 67), drop(1), keep(1), drop(2))},
		{4, op(put(66), keep(5)), op(put(66), keep(4))},
		{4, op(drop(5)), op(drop(4))},
		{4, op(keep(5), put(66)), op(keep(4), put(66))},
		{4, op(keep(2), drop(1), keep(2)), op(keep(1), drop(1), keep(2))},
		{5, op(keep(1), keep(3)), op(keep(4))},
		{5, op(drop(1), put(66), keep(3)), op(put(66), drop(1), keep(3))},
	}
	for _, c := range cases {
		if got, code := impl.Rebase(d, c.base, c.o); code != impl.OtOk || !alike(got, c.want) {
			t.Errorf("Rebase of %v from %d: %v %d, not %v", c.o, c.base, got, code, c.want)
		}
	}
}

// TestP7RebaseAtTheHead: where nothing was missed, the normal form is left.
func TestP7RebaseAtTheHead(t *testing.T) {
	r := rand.New(rand.NewSource(41))
	for _, c := range docCases() {
		n := len(c.texts[len(c.texts)-1])
		for _, o := range opsAround(r, n) {
			if !impl.OpOk(o) || impl.OpFrom(o) != n {
				continue
			}
			if got, code := impl.Rebase(c.d, c.d.From+len(c.d.List), o); code != impl.OtOk || !alike(got, stepwiseNorm(o)) {
				t.Errorf("Rebase of %v at the head of %v: %v %d", o, c.d, got, code)
			}
		}
	}
}

func TestP7Rebase(t *testing.T) {
	r := rand.New(rand.NewSource(42))
	codes := map[int]int{}
	for _, c := range docCases() {
		for i, text := range c.texts {
			for _, o := range opsAround(r, len(text)) {
				codes[checkRebase(t, c.d, c.d.From+i, o)]++
				codes[checkRebase(t, c.d, c.d.From-2+r.Intn(len(c.texts)+4), o)]++
			}
		}
	}
	hasCodes(t, codes, impl.OtOk, impl.OtInvalid, impl.OtFuture, impl.OtOld, impl.OtLarge)
}

// TestP13RebaseAtEveryBase is about the revisions around the stored ones.
func TestP13RebaseAtEveryBase(t *testing.T) {
	for _, c := range append(docCases(), fullDoc(lastFrom)) {
		from, head := c.d.From, c.d.From+len(c.d.List)
		for base := from - 2; base <= head+2; base++ {
			for _, n := range []int{len(c.texts[0]), len(c.texts[len(c.texts)-1])} {
				checkRebase(t, c.d, base, op(keep(n)))
			}
		}
		for _, o := range [][]impl.Part{op(keep(len(c.d.Text))), nil, op(put(97))} {
			refusesRebase(t, c.d, from-1, o, impl.OtOld)
			refusesRebase(t, c.d, head+1, o, impl.OtFuture)
			for _, base := range farNumbers() {
				want := impl.OtOld
				if base > 0 {
					want = impl.OtFuture
				}
				refusesRebase(t, c.d, base, o, want)
			}
		}
		for i, text := range c.texts {
			if got, code := impl.Rebase(c.d, from+i, op(keep(len(text)))); code != impl.OtOk || !alike(got, impl.Keeping(len(c.texts[len(c.texts)-1]))) {
				t.Errorf("Rebase of %v at %d: %v %d", c.d, from+i, got, code)
			}
		}
	}
}

// TestP13RebaseCodes has each code alone, and the first one where several apply.
func TestP13RebaseCodes(t *testing.T) {
	d := chainDoc().d
	fits, misfits, bad := op(keep(3)), op(keep(4)), op(keep(3), put(-1))
	for _, base := range []int{-1, 0, 4, 5, 6, 9, 10, 99, math.MinInt, math.MaxInt} {
		refusesRebase(t, d, base, bad, impl.OtInvalid)
		refusesRebase(t, impl.Doc{}, base, nil, impl.OtInvalid)
		for _, bad := range badDocs()[:100] {
			refusesRebase(t, bad, base, fits, impl.OtInvalid)
			refusesRebase(t, bad, base, nil, impl.OtInvalid)
		}
		for _, o := range notOk() {
			refusesRebase(t, d, base, o, impl.OtInvalid)
		}
	}
	for _, o := range [][]impl.Part{fits, misfits, nil, op(put(numbered(impl.MaxText)...))} {
		refusesRebase(t, d, 10, o, impl.OtFuture)
		refusesRebase(t, d, 4, o, impl.OtOld)
	}
	// The texts of the revisions have 3, 3, 5, 2 and 3 characters.
	for base, n := range map[int]int{5: 3, 6: 3, 7: 5, 8: 2, 9: 3} {
		for other := range 10 {
			want := impl.OtInvalid
			if other == n {
				want = impl.OtOk
			}
			if _, code := impl.Rebase(d, base, op(keep(other), put(97))); code != want {
				t.Errorf("Rebase from %d of an operation on %d characters: %d", base, other, code)
			}
		}
	}
}

func TestP13RebaseOfBadDocs(t *testing.T) {
	for _, d := range badDocs() {
		head := d.From + len(d.List)
		for _, base := range []int{-1, 0, d.From - 1, d.From, d.From + 1, head, head + 1} {
			for _, o := range [][]impl.Part{nil, op(keep(3)), op(keep(len(d.Text))), op(keep(-1))} {
				refusesRebase(t, d, base, o, impl.OtInvalid)
				rejects(t, d, request{1, 1, base, o}, impl.OtInvalid)
			}
		}
	}
}

// TestP13RebaseLarge: two insertions may together have MaxText characters, and
// not one more, also if a later entry deletes them again.
func TestP13RebaseLarge(t *testing.T) {
	full := numbered(impl.MaxText)
	for n := 90; n <= 110; n++ {
		mine := op(put(full[:n]...))
		want := impl.OtOk
		if n > 100 {
			want = impl.OtLarge
		}
		grown := impl.Doc{Name: "a", List: entries(op(put(full[:100]...)))}
		shrunk := copiedDoc(grown)
		shrunk.List = append(shrunk.List, entries(op(drop(100)))...)
		for _, d := range []impl.Doc{grown, shrunk} {
			if got, code := impl.Rebase(d, 0, mine); code != want || code != impl.OtOk && len(got) != 0 {
				t.Errorf("Rebase of %d characters: %v %d", n, got, code)
			}
			checkSubmit(t, d, request{8, 1, 0, mine})
		}
		if got, code := impl.Rebase(shrunk, 2, mine); code != impl.OtOk || !alike(got, mine) {
			t.Errorf("Rebase of %d characters at the head: %v %d", n, got, code)
		}
		// An operation that makes the text too long by itself is not OpOk.
		want = impl.OtOk
		if n > 100 {
			want = impl.OtInvalid
		}
		if _, code := impl.Rebase(shrunk, 1, op(keep(100), put(full[:n]...))); code != want {
			t.Errorf("Rebase of %d characters behind 100: %d", n, code)
		}
	}
	for _, c := range tooLarge() {
		kept, _, drops := lengths(c.a)
		d := impl.Doc{Name: "a", From: 7, Text: letters(kept + drops), List: entries(stepwiseNorm(c.a))}
		refusesRebase(t, d, 7, c.b, impl.OtLarge)
		refusesRebase(t, d, 7, op(keep(kept+drops+1)), impl.OtInvalid)
		refusesRebase(t, d, 6, c.b, impl.OtOld)
		refusesRebase(t, d, 9, c.b, impl.OtFuture)
		rejects(t, d, request{1, 1, 7, c.b}, impl.OtLarge)
		rejects(t, d, request{1, 2, 7, c.b}, impl.OtSeq)
	}
}

// checkCommitted checks, beside the comparison with the model, what a committed
// operation is and that all else stays.
func checkCommitted(t *testing.T, d impl.Doc, q request) impl.Doc {
	t.Helper()
	moved, code := impl.Rebase(d, q.base, q.o)
	got, rev, told := impl.Submit(d, q.client, q.seq, q.base, q.o)
	if code != impl.OtOk || told != impl.OtOk || rev != impl.HeadRev(d)+1 || impl.HeadRev(got) != rev || !impl.DocOk(got) {
		t.Fatalf("Submit(%v, %v): %v %d %d", d, q, got, rev, told)
	}
	if e := got.List[len(got.List)-1]; !entryAlike(e, impl.Entry{Client: q.client, Seq: q.seq, O: moved}) {
		t.Fatalf("Submit(%v, %v): the last entry is %v, not %v", d, q, e, moved)
	}
	if text, ok := impl.Apply(moved, impl.HeadText(d)); !ok || !slices.Equal(text, impl.HeadText(got)) {
		t.Fatalf("Submit(%v, %v): the last text is %v, not %v", d, q, impl.HeadText(got), text)
	}
	for at := got.From; at < rev; at++ {
		was, there := impl.TextAt(d, at)
		if text, ok := impl.TextAt(got, at); !ok || !there || !slices.Equal(text, was) {
			t.Fatalf("Submit(%v, %v): the text at %d is %v, not %v", d, q, at, text, was)
		}
	}
	for client := 1; client <= impl.MaxClients; client++ {
		want, there := impl.SeenOf(d, client)
		if client == q.client {
			want, there = impl.Seen{Client: client, Seq: q.seq, Rev: rev}, true
		}
		if s, ok := impl.SeenOf(got, client); ok != there || s != want {
			t.Fatalf("Submit(%v, %v): the request of %d is %v, not %v", d, q, client, s, want)
		}
	}
	room, _ := impl.Forget(d, impl.MaxWindow-1)
	if got.Name != d.Name || got.From != room.From || !slices.Equal(got.Text, room.Text) || !slices.EqualFunc(got.List[:len(got.List)-1], room.List, entryAlike) {
		t.Fatalf("Submit(%v, %v) changes more: %v", d, q, got)
	}
	return got
}

func TestP7SubmitWrittenOut(t *testing.T) {
	d := impl.Doc{Name: "a", Text: []int{97, 98}}
	steps := []struct {
		q    request
		o    []impl.Part
		text []int
		seen []impl.Seen
	}{
		{request{4, 1, 0, op(keep(2), put(65))}, op(keep(2), put(65)), []int{97, 98, 65}, []impl.Seen{{Client: 4, Seq: 1, Rev: 1}}},
		{request{2, 1, 0, op(put(66), keep(2))}, op(put(66), keep(3)), []int{66, 97, 98, 65}, []impl.Seen{{Client: 2, Seq: 1, Rev: 2}, {Client: 4, Seq: 1, Rev: 1}}},
		{request{7, 1, 1, op(keep(1), drop(1), put(67), keep(1))}, op(keep(2), put(67), drop(1), keep(1)), []int{66, 97, 67, 65}, []impl.Seen{{Client: 2, Seq: 1, Rev: 2}, {Client: 4, Seq: 1, Rev: 1}, {Client: 7, Seq: 1, Rev: 3}}},
		{request{3, 1, 3, nil}, nil, nil, nil},
		{request{3, 1, 0, op(keep(2))}, op(keep(4)), []int{66, 97, 67, 65}, []impl.Seen{{Client: 2, Seq: 1, Rev: 2}, {Client: 3, Seq: 1, Rev: 4}, {Client: 4, Seq: 1, Rev: 1}, {Client: 7, Seq: 1, Rev: 3}}},
		{request{4, 2, 1, op(drop(3), put(68))}, op(keep(1), put(68), drop(1), keep(1), drop(1)), []int{66, 68, 67}, []impl.Seen{{Client: 2, Seq: 1, Rev: 2}, {Client: 3, Seq: 1, Rev: 4}, {Client: 4, Seq: 2, Rev: 5}, {Client: 7, Seq: 1, Rev: 3}}},
	}
	rev := 0
	for _, s := range steps {
		got, at, code := impl.Submit(d, s.q.client, s.q.seq, s.q.base, s.q.o)
		if s.seen == nil {
			if code != impl.OtInvalid || at != 0 || !isZeroDoc(got) {
				t.Errorf("Submit(%v): %v %d %d", s.q, got, at, code)
			}
			continue
		}
		rev++
		want := copiedDoc(d)
		want.Seen = s.seen
		want.List = append(want.List, impl.Entry{Client: s.q.client, Seq: s.q.seq, O: s.o})
		if code != impl.OtOk || at != rev || !docAlike(got, want) || !slices.Equal(impl.HeadText(got), s.text) {
			t.Fatalf("Submit(%v): %v %d %d, not %v", s.q, got, at, code, want)
		}
		d = got
	}
}

// TestP7SubmitToEveryDoc submits operations of every client from every base.
func TestP7SubmitToEveryDoc(t *testing.T) {
	r := rand.New(rand.NewSource(43))
	codes := map[int]int{}
	for _, c := range docCases()[:60] {
		for i, text := range c.texts {
			for _, o := range opsAround(r, len(text)) {
				client := 1 + r.Intn(8)
				q := request{client, nextSeq(c.d, client), c.d.From + i, o}
				code := checkSubmit(t, c.d, q)
				codes[code]++
				if code == impl.OtOk && len(o) < 100 {
					checkCommitted(t, c.d, q)
				}
				q.client, q.seq, q.base = r.Intn(10), q.seq+r.Intn(4)-2, q.base+r.Intn(5)-2
				codes[checkSubmit(t, c.d, q)]++
			}
		}
	}
	hasCodes(t, codes, impl.OtOk, impl.OtInvalid, impl.OtFuture, impl.OtOld, impl.OtSeq, impl.OtLarge)
}

// TestP7SubmitMany lets clients that lag behind edit one document: each
// committed operation is kept, and leads from each text to the next.
func TestP7SubmitMany(t *testing.T) {
	r := rand.New(rand.NewSource(44))
	for range 20 {
		d, _ := impl.DocNew("many", randomText(r, r.Intn(60)))
		texts := [][]int{impl.HeadText(d)}
		var log []impl.Entry
		for len(log) < 60 {
			base := max(0, len(texts)-1-r.Intn(10))
			client := 1 + r.Intn(8)
			q := request{client, nextSeq(d, client), base, mildOpOn(r, len(texts[base]))}
			if checkSubmit(t, d, q) != impl.OtOk {
				// The base is too old, or a text that is almost full is emptied.
				q.base, q.o = len(texts)-1, op(drop(len(texts[len(texts)-1])))
			}
			d = checkCommitted(t, d, q)
			texts, log = append(texts, impl.HeadText(d)), append(log, d.List[len(d.List)-1])
			first := max(0, len(log)-8)
			if d.From != first || len(d.List) != len(log)-first || !slices.EqualFunc(d.List, log[first:], entryAlike) {
				t.Fatalf("the entries are %v, not %v", d.List, log[first:])
			}
			checkRevs(t, docCase{d, texts[first:]})
		}
	}
}

// TestP7SubmitWithAFullWindow: the first of MaxWindow entries is removed.
func TestP7SubmitWithAFullWindow(t *testing.T) {
	c := fullDoc(500)
	want := copiedDoc(c.d)
	want.From, want.Text = 501, numbered(impl.MaxText)
	want.List = append(want.List[1:], impl.Entry{Client: 3, Seq: 98, O: op(drop(200))})
	want.Seen[2] = impl.Seen{Client: 3, Seq: 98, Rev: 509}
	if got, rev, code := impl.Submit(c.d, 3, 98, 508, op(drop(100), drop(100))); code != impl.OtOk || rev != 509 || !docAlike(got, want) {
		t.Errorf("Submit: %v %d %d, not %v", got, rev, code, want)
	}
	for n := range impl.MaxWindow + 1 {
		d := impl.Doc{Name: "a", From: 3, Text: letters(2), List: slices.Repeat(entries(op(put(65), keep(1), drop(1))), n)}
		got := checkCommitted(t, d, request{2, 1, 3 + n, op(drop(2))})
		if wide := min(n+1, 8); len(got.List) != wide || got.From != 4+n-wide {
			t.Errorf("a document with %d entries has %d from %d on", n, len(got.List), got.From)
		}
	}
	// The oldest base is From, although its text is forgotten then.
	for i, text := range c.texts {
		checkCommitted(t, c.d, request{5, 96, 500 + i, op(keep(len(text)))})
	}
}

// TestP7SubmitKeepsSeenInOrder is about a client before, between and behind the
// others, and about one that was there.
func TestP7SubmitKeepsSeenInOrder(t *testing.T) {
	for set := range 1 << 8 {
		d := impl.Doc{Name: "a", From: 30}
		for client := 1; client <= 8; client++ {
			if set>>(client-1)&1 == 1 {
				d.Seen = append(d.Seen, impl.Seen{Client: client, Seq: 10 * client, Rev: 3 * client})
			}
		}
		for client := 1; client <= 8; client++ {
			q := request{client, nextSeq(d, client), 30, op(put(97))}
			got := checkCommitted(t, d, q)
			var want []impl.Seen
			for other := 1; other <= 8; other++ {
				if other == client {
					want = append(want, impl.Seen{Client: client, Seq: q.seq, Rev: 31})
				} else if set>>(other-1)&1 == 1 {
					want = append(want, impl.Seen{Client: other, Seq: 10 * other, Rev: 3 * other})
				}
			}
			if !slices.Equal(got.Seen, want) {
				t.Fatalf("Submit(%v, %v): %v, not %v", d.Seen, q, got.Seen, want)
			}
		}
	}
}

// TestP7RepeatedRequestsChangeNothing: whatever the base is, and whether the
// operation fits or not, as long as it is OpOk.
func TestP7RepeatedRequestsChangeNothing(t *testing.T) {
	docs := docCases()
	for _, from := range []int{lastFrom - 8, lastFrom - 7, lastFrom} {
		docs = append(docs, fullDoc(from))
	}
	for _, c := range docs {
		for _, s := range c.d.Seen {
			for _, base := range append(farNumbers(), -1, 0, c.d.From-1, c.d.From, c.d.From+len(c.d.List), c.d.From+len(c.d.List)+1) {
				for _, o := range [][]impl.Part{nil, op(keep(len(c.d.Text))), op(keep(7), put(97)), op(drop(impl.MaxText), put(numbered(impl.MaxText)...))} {
					got, rev, code := impl.Submit(c.d, s.Client, s.Seq, base, o)
					if code != impl.OtOk || rev != s.Rev || !docAlike(got, c.d) || !impl.DocSame(got, c.d) {
						t.Errorf("Submit of %v again to %v: %v %d %d", s, c.d, got, rev, code)
					}
				}
				rejects(t, c.d, request{s.Client, s.Seq, base, op(keep(-1))}, impl.OtInvalid)
			}
			bad := copiedDoc(c.d)
			bad.Name = "A"
			rejects(t, bad, request{s.Client, s.Seq, c.d.From, nil}, impl.OtInvalid)
		}
	}
}

// TestP7SubmitTwice repeats a request right after it was committed, and after
// others.
func TestP7SubmitTwice(t *testing.T) {
	d := chainDoc().d
	once := checkCommitted(t, d, request{3, 13, 6, op(put(97), keep(3))})
	more := checkCommitted(t, once, request{4, 1, 10, op(drop(4))})
	for range 10 {
		more = checkCommitted(t, more, request{5, nextSeq(more, 5), impl.HeadRev(more), op(put(98), keep(len(impl.HeadText(more))))})
	}
	for _, d := range []impl.Doc{once, more} {
		got, rev, code := impl.Submit(d, 3, 13, 6, op(put(97), keep(3)))
		if code != impl.OtOk || rev != 10 || !docAlike(got, d) {
			t.Errorf("Submit again: %v %d %d", got, rev, code)
		}
	}
	rejects(t, more, request{3, 14, 6, op(put(97), keep(3))}, impl.OtOld)
	rejects(t, more, request{3, 12, 6, op(put(97), keep(3))}, impl.OtSeq)
}

// TestP13SubmitAtEverySeq is about the numbers around that of the last request.
func TestP13SubmitAtEverySeq(t *testing.T) {
	for _, last := range []int{0, 1, 2, 10, impl.MaxNum - 2, impl.MaxNum - 1, impl.MaxNum} {
		for client := 1; client <= 8; client++ {
			d := impl.Doc{Name: "a", From: 9, Text: letters(3)}
			if last > 0 {
				d.Seen = []impl.Seen{{Client: client, Seq: last, Rev: 4}}
			}
			for _, seq := range append(farNumbers(), -2, -1, 0, 1, 2, 3, last-2, last-1, last, last+1, last+2, impl.MaxNum-1, impl.MaxNum, impl.MaxNum+1) {
				got, rev, code := impl.Submit(d, client, seq, 9, op(drop(3)))
				wantRev, want := 0, impl.OtSeq
				switch {
				case seq < 1 || seq > 1000000000:
					want = impl.OtInvalid
				case seq == last:
					wantRev, want = 4, impl.OtOk
				case seq == last+1:
					wantRev, want = 10, impl.OtOk
				}
				if code != want || rev != wantRev || seq == last && code == impl.OtOk && !docAlike(got, d) {
					t.Errorf("Submit with the Seq %d after %d: %v %d %d", seq, last, got, rev, code)
				}
				checkSubmit(t, d, request{client, seq, 9, op(drop(3))})
				// The number of another client does not count.
				other := client%8 + 1
				checkSubmit(t, d, request{other, seq, 9, op(drop(3))})
			}
		}
	}
}

func TestP13SubmitOfEveryClient(t *testing.T) {
	for _, d := range []impl.Doc{{Name: "a", From: 8}, {Name: "a", From: 8, Seen: allSeen(8)[:3]}} {
		for client := -3; client <= 12; client++ {
			for _, seq := range []int{1, 97, 98, 99, 100} {
				code := checkSubmit(t, d, request{client, seq, 8, nil})
				if (code == impl.OtInvalid) != (client < 1 || client > 8) {
					t.Errorf("Submit of client %d: %d", client, code)
				}
			}
		}
		for _, client := range farNumbers() {
			rejects(t, d, request{client, 1, 8, nil}, impl.OtInvalid)
		}
	}
}

// TestP13SubmitCodes has each code alone, and the first one where several apply.
func TestP13SubmitCodes(t *testing.T) {
	d := chainDoc().d
	fits, misfits, bad := op(keep(3)), op(keep(4)), op(keep(3), impl.Part{})
	if _, rev, code := impl.Submit(d, 2, 1, 9, fits); code != impl.OtOk || rev != 10 {
		t.Fatalf("the request is rejected: %d %d", rev, code)
	}
	cases := []struct {
		q    request
		code int
	}{
		{request{0, 1, 9, fits}, impl.OtInvalid}, {request{9, 1, 9, fits}, impl.OtInvalid}, {request{2, 0, 9, fits}, impl.OtInvalid},
		{request{2, impl.MaxNum + 1, 9, fits}, impl.OtInvalid}, {request{2, 1, 9, bad}, impl.OtInvalid}, {request{2, 1, 9, misfits}, impl.OtInvalid},
		{request{2, 2, 9, fits}, impl.OtSeq}, {request{3, 11, 9, fits}, impl.OtSeq}, {request{3, 14, 9, fits}, impl.OtSeq}, {request{3, 1, 9, fits}, impl.OtSeq},
		{request{2, 1, 10, fits}, impl.OtFuture}, {request{2, 1, 4, fits}, impl.OtOld},
		{request{6, impl.MaxNum + 1, 9, fits}, impl.OtInvalid}, {request{6, impl.MaxNum - 1, 9, fits}, impl.OtSeq}, {request{6, 1, 9, fits}, impl.OtSeq},
		// Several at once.
		{request{0, 2, 10, misfits}, impl.OtInvalid}, {request{2, -1, 4, fits}, impl.OtInvalid}, {request{2, 2, 10, bad}, impl.OtInvalid},
		{request{3, 12, 4, bad}, impl.OtInvalid}, {request{2, 1, 10, bad}, impl.OtInvalid}, {request{2, 1, 4, bad}, impl.OtInvalid},
		{request{2, 2, 10, fits}, impl.OtSeq}, {request{2, 2, 4, fits}, impl.OtSeq}, {request{2, 2, 9, misfits}, impl.OtSeq}, {request{3, 14, 10, misfits}, impl.OtSeq},
		{request{2, 1, 10, misfits}, impl.OtFuture}, {request{2, 1, 4, misfits}, impl.OtOld}, {request{3, 13, math.MaxInt, misfits}, impl.OtFuture},
		{request{3, 13, math.MinInt, misfits}, impl.OtOld},
	}
	for _, c := range cases {
		rejects(t, d, c.q, c.code)
		rejects(t, impl.Doc{}, c.q, impl.OtInvalid)
	}
}

// TestP13SubmitAtTheLastRevision: beyond it there is only OtLarge, and what
// comes before it in the document's list.
func TestP13SubmitAtTheLastRevision(t *testing.T) {
	for back := -1; back <= 12; back++ {
		for n := range impl.MaxWindow + 1 {
			d := impl.Doc{Name: "a", From: lastFrom - back, List: slices.Repeat(entries(nil), n), Seen: []impl.Seen{{Client: 1, Seq: 5, Rev: 3}}}
			head := d.From + n
			want := impl.OtOk
			if d.From > lastFrom {
				want = impl.OtInvalid
			} else if head >= lastFrom {
				want = impl.OtLarge
			}
			for _, q := range []request{{1, 6, head, op(put(97))}, {2, 1, d.From, nil}} {
				if code := checkSubmit(t, d, q); code != want {
					t.Errorf("Submit at the revision %d from %d: %d, not %d", head, d.From, code, want)
				}
			}
			if want != impl.OtLarge {
				continue
			}
			rejects(t, d, request{0, 6, head, nil}, impl.OtInvalid)
			rejects(t, d, request{1, 6, head, op(keep(-1))}, impl.OtInvalid)
			rejects(t, d, request{1, 7, head, nil}, impl.OtSeq)
			rejects(t, d, request{1, 6, head + 1, nil}, impl.OtFuture)
			rejects(t, d, request{1, 6, d.From - 1, nil}, impl.OtOld)
			rejects(t, d, request{1, 6, head, op(keep(1))}, impl.OtInvalid)
			if got, rev, code := impl.Submit(d, 1, 5, head+1, nil); code != impl.OtOk || rev != 3 || !docAlike(got, d) {
				t.Errorf("Submit again at the revision %d: %v %d %d", head, got, rev, code)
			}
			if got, code := impl.Rebase(d, d.From, op(put(97))); code != impl.OtOk || !alike(got, op(put(97))) {
				t.Errorf("Rebase at the revision %d: %v %d", head, got, code)
			}
		}
	}
	d := impl.Doc{Name: "a", From: lastFrom - 1, Text: letters(2)}
	got := checkCommitted(t, d, request{1, 1, lastFrom - 1, op(drop(2))})
	rejects(t, got, request{1, 2, lastFrom, nil}, impl.OtLarge)
}

// TestP7RejectionsHaveAReason: a rejected submission has a code with a name,
// returns the zero value, and changes nothing.
func TestP7RejectionsHaveAReason(t *testing.T) {
	r := rand.New(rand.NewSource(45))
	for _, own := range badDocs() {
		d, kept := sparedDoc(own)
		got, rev, code := impl.Submit(d, 1+r.Intn(8), 1+r.Intn(3), d.From, op(keep(len(d.Text))))
		if !isZeroDoc(got) || rev != 0 || impl.OtName(code) != "invalid" || !kept() {
			t.Fatalf("Submit to %v: %v %d %d", own, got, rev, code)
		}
	}
	rejected := 0
	for _, c := range docCases() {
		for range 30 {
			d, kept := sparedDoc(c.d)
			o, keptOp := sparedOp(mildOpOn(r, len(c.d.Text)+r.Intn(3)))
			client := r.Intn(10)
			got, rev, code := impl.Submit(d, client, nextSeq(c.d, client)+r.Intn(3)-1, c.d.From-2+r.Intn(len(c.texts)+4), o)
			if !kept() || !keptOp() {
				t.Fatalf("Submit changes %v or %v", c.d, o)
			}
			if code == impl.OtOk {
				continue
			}
			rejected++
			name := impl.OtName(code)
			if !isZeroDoc(got) || rev != 0 || !slices.Contains([]string{"invalid", "future", "old", "seq", "large"}, name) {
				t.Fatalf("Submit to %v: %v %d %d", c.d, got, rev, code)
			}
		}
	}
	if rejected < 500 {
		t.Errorf("only %d submissions were rejected", rejected)
	}
}

// refusesFetch checks that both functions refuse a revision with this code.
func refusesFetch(t *testing.T, d impl.Doc, rev int, code int) {
	t.Helper()
	if l, told := impl.Fetch(d, rev); told != code || len(l) != 0 {
		t.Errorf("Fetch(%v, %d): %v %d, not the code %d", d, rev, l, told, code)
	}
	if n := impl.Missed(d, rev); n != -1 {
		t.Errorf("Missed(%v, %d): %d", d, rev, n)
	}
}

func TestP13FetchAndMissed(t *testing.T) {
	for _, c := range append(docCases(), fullDoc(lastFrom)) {
		from, head := c.d.From, c.d.From+len(c.d.List)
		for rev := from; rev <= head; rev++ {
			l, code := impl.Fetch(c.d, rev)
			if code != impl.OtOk || !slices.EqualFunc(l, c.d.List[rev-from:], entryAlike) {
				t.Errorf("Fetch(%v, %d): %v %d", c.d, rev, l, code)
			}
			if n := impl.Missed(c.d, rev); n != head-rev {
				t.Errorf("Missed(%v, %d): %d", c.d, rev, n)
			}
		}
		for back := 1; back <= 3; back++ {
			refusesFetch(t, c.d, from-back, impl.OtOld)
			refusesFetch(t, c.d, head+back, impl.OtFuture)
		}
		for _, rev := range farNumbers() {
			want := impl.OtOld
			if rev > 0 {
				want = impl.OtFuture
			}
			refusesFetch(t, c.d, rev, want)
		}
	}
}

func TestP13FetchWrittenOut(t *testing.T) {
	d := impl.Doc{Name: "a", From: 3, Text: letters(1), List: entries(op(drop(1)), op(put(65)), op(keep(1)))}
	want := []impl.Entry{{Client: 1, Seq: 10, O: op(drop(1))}, {Client: 2, Seq: 11, O: op(put(65))}, {Client: 3, Seq: 12, O: op(keep(1))}}
	for i := range 4 {
		if l, code := impl.Fetch(d, 3+i); code != impl.OtOk || !slices.EqualFunc(l, want[i:], entryAlike) {
			t.Errorf("Fetch at %d: %v %d", 3+i, l, code)
		}
		if n := impl.Missed(d, 3+i); n != 3-i {
			t.Errorf("Missed at %d: %d", 3+i, n)
		}
	}
	refusesFetch(t, d, 2, impl.OtOld)
	refusesFetch(t, d, 7, impl.OtFuture)
}

func TestP13FetchOfBadDocs(t *testing.T) {
	for _, d := range badDocs() {
		head := d.From + len(d.List)
		for _, rev := range []int{math.MinInt, -1, 0, 1, d.From - 1, d.From, d.From + 1, head - 1, head, head + 1, math.MaxInt} {
			refusesFetch(t, d, rev, impl.OtInvalid)
		}
	}
}

// TestP13FetchLeadsToTheHead: what a client fetches at a revision leads from
// the text of this revision to the last one.
func TestP13FetchLeadsToTheHead(t *testing.T) {
	for _, c := range docCases() {
		for i, text := range c.texts {
			l, _ := impl.Fetch(c.d, c.d.From+i)
			for _, e := range l {
				text, _ = impl.Apply(e.O, text)
			}
			if !slices.Equal(text, impl.HeadText(c.d)) {
				t.Errorf("the entries of %v after %d lead to %v", c.d, c.d.From+i, text)
			}
		}
	}
}

func TestP13SubmitNilAndEmptyAreEqual(t *testing.T) {
	for _, c := range docCases() {
		for _, nils := range []bool{true, false} {
			d := withNone(c.d, nils)
			last := len(c.texts) - 1
			for _, none := range [][]int{nil, {}} {
				o := emptied(op(put(), keep(len(c.texts[last])), put(97), drop(0)), none)
				if len(c.texts[last]) < impl.MaxText && d.From < lastFrom {
					checkCommitted(t, d, request{7, nextSeq(d, 7), d.From + last, o})
				}
				checkSubmit(t, d, request{7, nextSeq(d, 7), d.From + last, o})
				checkRebase(t, d, d.From+last, o)
			}
			if l, code := impl.Fetch(d, d.From); code != impl.OtOk || !slices.EqualFunc(l, c.d.List, entryAlike) {
				t.Errorf("Fetch(%v): %v %d", d, l, code)
			}
		}
	}
	for _, none := range [][]impl.Part{nil, {}} {
		d := impl.Doc{Name: "a"}
		if got, code := impl.Rebase(d, 0, none); code != impl.OtOk || len(got) != 0 {
			t.Errorf("Rebase without parts: %v %d", got, code)
		}
		checkCommitted(t, d, request{1, 1, 0, none})
	}
}

// TestP13SubmitResultsAreAlwaysTheSame: a map is visited in another order at
// every call.
func TestP13SubmitResultsAreAlwaysTheSame(t *testing.T) {
	c := fullDoc(500)
	sparse := copiedDoc(c.d)
	sparse.Seen = slices.Delete(sparse.Seen, 4, 5)
	for _, d := range []impl.Doc{c.d, sparse} {
		q := request{5, nextSeq(d, 5), 505, op(keep(impl.MaxText))}
		want, rev, code := modelSubmit(d, q)
		for range 300 {
			got, at, told := impl.Submit(d, q.client, q.seq, q.base, q.o)
			if told != code || at != rev || !docAlike(got, want) {
				t.Fatalf("Submit depends on the order of a map: %v %d %d", got, at, told)
			}
		}
	}
}

// sharingCases are requests with their documents: committed ones, repeated ones
// and rejected ones.
func sharingCases() ([]impl.Doc, []request) {
	r := rand.New(rand.NewSource(46))
	var docs []impl.Doc
	var l []request
	for _, c := range docCases() {
		for i, text := range c.texts {
			client := 1 + r.Intn(8)
			seq := nextSeq(c.d, client)
			for _, q := range []request{
				{client, seq, c.d.From + i, op(put(97, 98), keep(len(text)))}, {client, seq, c.d.From + i, op(drop(len(text)), put(65, 66))},
				{client, seq, c.d.From + i, mildOpOn(r, len(text))}, {client, max(1, seq-1), c.d.From, op(put(97, 98), keep(len(text)))},
				{client, seq + 1, c.d.From + i, op(keep(len(text)))}, {client, seq, c.d.From - 1, op(keep(len(text)))},
			} {
				docs, l = append(docs, c.d), append(l, q)
			}
		}
	}
	return docs, l
}

func TestP13SubmitArgumentsAreNotChanged(t *testing.T) {
	check := func(own impl.Doc, q request) {
		t.Helper()
		d, kept := sparedDoc(own)
		o, keptOp := sparedOp(q.o)
		impl.Rebase(d, q.base, o)
		impl.Submit(d, q.client, q.seq, q.base, o)
		impl.Fetch(d, q.base)
		impl.Missed(d, q.base)
		if !kept() || !keptOp() {
			t.Errorf("an argument was changed: %v, %v", own, q)
		}
	}
	docs, l := sharingCases()
	for i, d := range docs {
		check(d, l[i])
	}
	for _, d := range append(badDocs(), changedDocs()...) {
		check(d, request{1, 1, d.From, op(keep(len(d.Text)), put(97))})
	}
	for _, o := range notOk() {
		check(chainDoc().d, request{2, 1, 9, o})
	}
}

func TestP13RebaseSharesNothing(t *testing.T) {
	docs, l := sharingCases()
	for i, own := range docs {
		q := l[i]
		d, kept := sparedDoc(own)
		o, keptOp := sparedOp(q.o)
		spoiled, _ := impl.Rebase(d, q.base, o)
		got, _ := impl.Rebase(d, q.base, o)
		want, _ := modelRebase(own, q.base, q.o)
		if !separateOps(spoiled) {
			t.Errorf("Rebase(%v, %v): two parts share memory", own, q)
		}
		if !kept() || !keptOp() || !alike(got, want) {
			t.Errorf("Rebase(%v, %v) shares memory with an argument or with another result", own, q)
		}
		spoilDoc(d)
		spoilOp(o)
		if !alike(got, want) {
			t.Errorf("Rebase(%v, %v) depends on an argument after the call", own, q)
		}
	}
}

func TestP13SubmitSharesNothing(t *testing.T) {
	docs, l := sharingCases()
	for i, own := range docs {
		q := l[i]
		d, kept := sparedDoc(own)
		d.Name = strings.Clone(d.Name)
		o, keptOp := sparedOp(q.o)
		spoiled, _, _ := impl.Submit(d, q.client, q.seq, q.base, o)
		got, _, _ := impl.Submit(d, q.client, q.seq, q.base, o)
		want, _, _ := modelSubmit(own, q)
		if within(got.Name, d.Name) {
			t.Errorf("Submit(%v, %v) shares the name", own, q)
		}
		if !separateDoc(spoiled) {
			t.Errorf("Submit(%v, %v): two slices share memory", own, q)
		}
		spoilDoc(spoiled)
		if !kept() || !keptOp() || !docAlike(got, want) {
			t.Errorf("Submit(%v, %v) shares memory with an argument or with another result", own, q)
		}
		spoilDoc(d)
		spoilOp(o)
		if !docAlike(got, want) {
			t.Errorf("Submit(%v, %v) depends on an argument after the call", own, q)
		}
	}
}

func TestP13FetchSharesNothing(t *testing.T) {
	for _, c := range docCases() {
		for i := range c.texts {
			d, kept := sparedDoc(c.d)
			spoiled, _ := impl.Fetch(d, d.From+i)
			got, _ := impl.Fetch(d, d.From+i)
			if !separateDoc(impl.Doc{List: spoiled}) {
				t.Errorf("Fetch(%v, %d): two operations share memory", c.d, d.From+i)
			}
			clear(spoiled[:cap(spoiled)])
			if !kept() || !slices.EqualFunc(got, c.d.List[i:], entryAlike) {
				t.Errorf("Fetch(%v, %d) shares memory with the document or with another result", c.d, d.From+i)
			}
			spoilDoc(d)
			if !slices.EqualFunc(got, c.d.List[i:], entryAlike) {
				t.Errorf("Fetch(%v, %d) depends on the document after the call", c.d, d.From+i)
			}
		}
	}
}

// TestP13SubmitOfOneList is about an operation whose characters are parts of
// the document's text.
func TestP13SubmitOfOneList(t *testing.T) {
	all := letters(6)
	o := op(put(all[1:3]...), drop(2), keep(1))
	d := impl.Doc{Name: "a", Text: all[:3], List: entries(o, o)}
	got := checkCommitted(t, d, request{1, 1, 2, o})
	if !entryAlike(got.List[2], impl.Entry{Client: 1, Seq: 1, O: op(put(98, 99), drop(2), keep(1))}) || !separateDoc(got) {
		t.Errorf("Submit: two slices share memory, or the entry is %v", got.List[2])
	}
	l, _ := impl.Fetch(d, 0)
	if !separateDoc(impl.Doc{List: l}) {
		t.Error("Fetch: two operations share memory")
	}
	if !slices.Equal(all, letters(6)) || !alike(o, op(put(98, 99), drop(2), keep(1))) {
		t.Errorf("the characters became %v, the operation %v", all, o)
	}
}
