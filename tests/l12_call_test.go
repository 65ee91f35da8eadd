package tests

import (
	"maps"
	"math"
	"math/rand"
	"slices"
	"strings"
	"testing"
	"unicode/utf8"

	"loop.example/g00797/impl"
)

// usedFields are the fields of each kind of call, as the document lists them.
func usedFields() map[int][]string {
	return map[int][]string{
		impl.ClOpen: {"Doc", "Text"}, impl.ClSubmit: {"Doc", "Client", "Seq", "N", "O"}, impl.ClFetch: {"Doc", "N"}, impl.ClSnap: {"Doc"},
		impl.ClSub: {"Doc", "N"}, impl.ClPoll: {"Client", "N"}, impl.ClResync: {"Client"}, impl.ClShut: nil,
	}
}

// kinds are all kinds of calls.
func kinds() []int {
	return slices.Sorted(maps.Keys(usedFields()))
}

// noKinds are numbers that are no kinds of calls.
func noKinds() []int {
	return append(farNumbers(), -8, -2, -1, 0, 9, 10, 1<<32+8, impl.MaxNum)
}

// setFields are the fields of c that are no zero values.
func setFields(c impl.Call) []string {
	set := map[string]bool{"Doc": c.Doc != "", "Client": c.Client != 0, "Seq": c.Seq != 0, "N": c.N != 0, "O": len(c.O) > 0, "Text": len(c.Text) > 0}
	maps.DeleteFunc(set, func(_ string, there bool) bool { return !there })
	return slices.Collect(maps.Keys(set))
}

func soundText(t []int) bool {
	for _, n := range t {
		if n < 0 || n > 0x10ffff || !utf8.ValidRune(rune(n)) {
			return false
		}
	}
	return len(t) <= 200
}

// soundCall checks a call without the program, but for PartOk.
func soundCall(c impl.Call) bool {
	used, there := usedFields()[c.Kind]
	if !there || len(c.Doc) > 8 || len(c.O) > 600 || !soundText(c.Text) {
		return false
	}
	for _, p := range c.O {
		if !impl.PartOk(p) {
			return false
		}
	}
	for _, name := range setFields(c) {
		if !slices.Contains(used, name) {
			return false
		}
	}
	return true
}

// callOf returns a call of the hub as one of this chapter.
func callOf(c hubCall) impl.Call {
	switch c.kind {
	case "open":
		return impl.Call{Kind: impl.ClOpen, Doc: c.name, Text: c.text}
	case "submit":
		return impl.Call{Kind: impl.ClSubmit, Doc: c.name, Client: c.q.client, Seq: c.q.seq, N: c.q.base, O: c.q.o}
	case "subscribe":
		return impl.Call{Kind: impl.ClSub, Doc: c.name, N: c.n}
	case "poll":
		return impl.Call{Kind: impl.ClPoll, Client: c.id, N: c.n}
	case "resync":
		return impl.Call{Kind: impl.ClResync, Client: c.id}
	case "shut":
		return impl.Call{Kind: impl.ClShut}
	}
	panic("there is no call " + c.kind)
}

// hubCallOf is the way back. There is none for what only reads.
func hubCallOf(c impl.Call) hubCall {
	switch c.Kind {
	case impl.ClOpen:
		return hubCall{kind: "open", name: c.Doc, text: c.Text}
	case impl.ClSubmit:
		return hubCall{kind: "submit", name: c.Doc, q: request{c.Client, c.Seq, c.N, c.O}}
	case impl.ClSub:
		return hubCall{kind: "subscribe", name: c.Doc, n: c.N}
	case impl.ClPoll:
		return hubCall{kind: "poll", id: c.Client, n: c.N}
	case impl.ClResync:
		return hubCall{kind: "resync", id: c.Client}
	}
	return hubCall{kind: "shut"}
}

// modelRead answers what a fetch or a snapshot asks of a valid hub.
func modelRead(h impl.Hub, c impl.Call) impl.Answer {
	at := docIndex(h, c.Doc)
	switch {
	case h.Shut:
		return impl.Answer{Code: impl.OtClosed}
	case at < 0:
		return impl.Answer{Code: impl.OtNoDoc}
	}
	d := copiedDoc(h.Docs[at])
	switch {
	case c.Kind == impl.ClSnap:
		return impl.Answer{Rev: headOf(d), Text: stepText(d)}
	case c.N > headOf(d):
		return impl.Answer{Code: impl.OtFuture}
	case c.N < d.From:
		return impl.Answer{Code: impl.OtOld}
	}
	return impl.Answer{List: d.List[c.N-d.From:]}
}

// modelDo follows the document's words with the model of the hub.
func modelDo(h impl.Hub, c impl.Call) (impl.Hub, impl.Answer) {
	if !soundHub(h) || !soundCall(c) {
		return copiedHub(h), impl.Answer{Code: impl.OtInvalid}
	}
	if c.Kind == impl.ClFetch || c.Kind == impl.ClSnap {
		return copiedHub(h), modelRead(h, c)
	}
	r := modelHub(h, hubCallOf(c))
	if r.code != impl.OtOk {
		return copiedHub(h), impl.Answer{Code: r.code}
	}
	return r.h, impl.Answer{Rev: r.n, Text: r.text, List: r.list}
}

// answerAlike and callAlike compare field by field, without the program.
func answerAlike(a impl.Answer, b impl.Answer) bool {
	return a.Code == b.Code && a.Rev == b.Rev && slices.Equal(a.Text, b.Text) && entriesAlike(a.List, b.List)
}

func callAlike(a impl.Call, b impl.Call) bool {
	return a.Kind == b.Kind && a.Doc == b.Doc && a.Client == b.Client && a.Seq == b.Seq && a.N == b.N && alike(a.O, b.O) && slices.Equal(a.Text, b.Text)
}

func isReason(a impl.Answer) bool {
	return a.Code != impl.OtOk && impl.OtName(a.Code) != "" && answerAlike(a, impl.Answer{Code: a.Code})
}

// checkDo compares a call with the model, and checks what P9 says of it.
func checkDo(t *testing.T, h impl.Hub, c impl.Call) (impl.Hub, impl.Answer) {
	t.Helper()
	want, said := modelDo(h, c)
	next, a := impl.Do(h, c)
	if !hubAlike(next, want) || !answerAlike(a, said) {
		t.Fatalf("%v of %v: %v and %v, not %v and %v", c, h, next, a, want, said)
	}
	if a.Code == impl.OtOk && !impl.HubOk(next) {
		t.Fatalf("%v of %v leaves a hub that is not valid: %v", c, h, next)
	}
	if a.Code != impl.OtOk && (!isReason(a) || !impl.HubSame(next, h)) {
		t.Fatalf("%v of %v is rejected with %v and %v", c, h, a, next)
	}
	return next, a
}

// rejectsCall checks that a call has this code, that the other fields of the answer
// are zero values, and that the hub that was passed comes back.
func rejectsCall(t *testing.T, h impl.Hub, c impl.Call, code int) {
	t.Helper()
	if next, a := impl.Do(h, c); !hubAlike(next, h) || !answerAlike(a, impl.Answer{Code: code}) {
		t.Errorf("%v of %v: %v and %v, not the code %d", c, h, next, a, code)
	}
}

// readCalls are fetches and snapshots for h.
func readCalls(h impl.Hub) []impl.Call {
	l := []impl.Call{{Kind: impl.ClSnap, Doc: "none"}, {Kind: impl.ClSnap}, {Kind: impl.ClFetch, Doc: "none", N: 1}, {Kind: impl.ClFetch, Doc: "A"}}
	for _, d := range h.Docs {
		l = append(l, impl.Call{Kind: impl.ClSnap, Doc: d.Name}, impl.Call{Kind: impl.ClSnap, Doc: d.Name + "a"})
		for _, rev := range []int{math.MinInt, d.From - 1, d.From, d.From + len(d.List)/2, headOf(d), headOf(d) + 1, math.MaxInt} {
			l = append(l, impl.Call{Kind: impl.ClFetch, Doc: d.Name, N: rev})
		}
	}
	return l
}

// wrongCalls are not valid, each for one reason. In some hubs they would be
// executed without it.
func wrongCalls() []impl.Call {
	l := []impl.Call{{}, {Kind: 9}, {Kind: -1}, {Kind: 1<<32 + impl.ClShut}}
	for _, c := range []impl.Call{{Doc: "abd"}, {Doc: "abc"}, {Client: 2}, {Seq: 1}, {N: 1}, {N: -1}, {O: op(keep(3))}, {O: op(keep(0))}, {Text: letters(1)}} {
		c.Kind = impl.ClShut
		l = append(l, c)
	}
	return append(l,
		impl.Call{Kind: impl.ClOpen, Doc: "abd", N: 1}, impl.Call{Kind: impl.ClOpen, Doc: "abd", Client: 1}, impl.Call{Kind: impl.ClOpen, Doc: "abd", Seq: 1}, impl.Call{Kind: impl.ClOpen, Doc: "abd", O: op(put(97))},
		impl.Call{Kind: impl.ClOpen, Doc: "abdefghij"}, impl.Call{Kind: impl.ClOpen, Doc: "abd", Text: []int{-1}}, impl.Call{Kind: impl.ClOpen, Doc: "abd", Text: letters(201)},
		impl.Call{Kind: impl.ClSubmit, Doc: "abc", Client: 2, Seq: 1, N: 9, O: op(keep(3)), Text: letters(3)},
		impl.Call{Kind: impl.ClSubmit, Doc: "abc", Client: 2, Seq: 1, N: 9, O: op(keep(3), keep(-1))},
		impl.Call{Kind: impl.ClSubmit, Doc: "abc", Client: 2, Seq: 1, N: 9, O: append(op(keep(3)), repeated(keep(0), 600)...)},
		impl.Call{Kind: impl.ClFetch, Doc: "abc", N: 6, Client: 1}, impl.Call{Kind: impl.ClFetch, Doc: "abc", N: 6, Seq: 1}, impl.Call{Kind: impl.ClFetch, Doc: "abc", N: 6, Text: letters(1)}, impl.Call{Kind: impl.ClFetch, Doc: "abcabcabc", N: 6},
		impl.Call{Kind: impl.ClSnap, Doc: "abc", N: 9}, impl.Call{Kind: impl.ClSnap, Doc: "abc", Client: 2}, impl.Call{Kind: impl.ClSnap, Doc: "abc", O: op(keep(3))}, impl.Call{Kind: impl.ClSnap, Doc: "nonenonen"},
		impl.Call{Kind: impl.ClSub, Doc: "abc", N: 2, Client: 12}, impl.Call{Kind: impl.ClSub, Doc: "abc", N: 2, Text: letters(1)},
		impl.Call{Kind: impl.ClPoll, Client: 2, N: 1, Doc: "abc"}, impl.Call{Kind: impl.ClPoll, Client: 2, N: 1, Seq: 1}, impl.Call{Kind: impl.ClPoll, Client: 2, N: 1, Text: letters(1)},
		impl.Call{Kind: impl.ClResync, Client: 2, N: 9}, impl.Call{Kind: impl.ClResync, Client: 2, Doc: "abc"}, impl.Call{Kind: impl.ClResync, Client: 2, O: op(put())},
	)
}

// callsOn are calls of all kinds for h, of which about a half is executed.
func callsOn(r *rand.Rand, h impl.Hub) []impl.Call {
	var l []impl.Call
	for _, c := range hubCalls(r, h) {
		l = append(l, callOf(c))
	}
	wrong := wrongCalls()
	return append(append(l, readCalls(h)...), wrong[r.Intn(len(wrong))], wrong[r.Intn(len(wrong))])
}

func TestP13ClConstants(t *testing.T) {
	l := []int{impl.ClOpen, impl.ClSubmit, impl.ClFetch, impl.ClSnap, impl.ClSub, impl.ClPoll, impl.ClResync, impl.ClShut}
	if !slices.Equal(l, []int{1, 2, 3, 4, 5, 6, 7, 8}) {
		t.Errorf("the kinds are %v", l)
	}
}

func TestP13ClName(t *testing.T) {
	names := map[int]string{1: "open", 2: "submit", 3: "fetch", 4: "snap", 5: "sub", 6: "poll", 7: "resync", 8: "shut"}
	for k := -300; k <= 300; k++ {
		if got := impl.ClName(k); got != names[k] {
			t.Errorf("ClName(%d) is %q", k, got)
		}
	}
	for _, k := range noKinds() {
		if got := impl.ClName(k); got != "" {
			t.Errorf("ClName(%d) is %q", k, got)
		}
	}
}

func TestP13OnDoc(t *testing.T) {
	for k := -300; k <= 300; k++ {
		if impl.OnDoc(k) != slices.Contains(usedFields()[k], "Doc") {
			t.Errorf("OnDoc(%d) is %v", k, impl.OnDoc(k))
		}
	}
	for _, k := range noKinds() {
		if impl.OnDoc(k) {
			t.Errorf("OnDoc(%d) is true", k)
		}
	}
	for _, k := range []int{impl.ClOpen, impl.ClSubmit, impl.ClFetch, impl.ClSnap, impl.ClSub} {
		if !impl.OnDoc(k) || impl.OnDoc(k+5) {
			t.Errorf("OnDoc(%d) is %v, of 5 more it is %v", k, impl.OnDoc(k), impl.OnDoc(k+5))
		}
	}
}

// someFields are calls without a kind, with every set of the fields. The values
// are such that each of them is valid.
func someFields() []impl.Call {
	var l []impl.Call
	for _, full := range []impl.Call{
		{Doc: "abc", Client: 1, Seq: 1, N: 1, O: op(keep(3)), Text: letters(3)},
		{Doc: "\x00", Client: -1, Seq: -1, N: -1, O: op(put()), Text: []int{0}},
		{Doc: "A b\xff-.9\n", Client: 1 << 32, Seq: math.MinInt, N: math.MaxInt, O: op(keep(0), drop(200), drop(200)), Text: numbered(200)},
		{Doc: "zzzzzzzz", Client: math.MaxInt, Seq: 1 << 32, N: 1 << 33, O: repeated(keep(0), 600), Text: []int{impl.MaxSign}},
	} {
		for set := range 64 {
			c := full
			if set&1 == 0 {
				c.Doc = ""
			}
			if set&2 == 0 {
				c.Client = 0
			}
			if set&4 == 0 {
				c.Seq = 0
			}
			if set&8 == 0 {
				c.N = 0
			}
			if set&16 == 0 {
				c.O = nil
			}
			if set&32 == 0 {
				c.Text = nil
			}
			l = append(l, c)
		}
	}
	return l
}

// TestP13CallOkFields has each kind with every set of fields: its own ones, each
// other one alone, and more.
func TestP13CallOkFields(t *testing.T) {
	counts := map[int]int{}
	for _, c := range someFields() {
		for _, c.Kind = range append(kinds(), noKinds()...) {
			want := soundCall(c)
			if impl.CallOk(c) != want {
				t.Errorf("CallOk(%v) is %v", c, !want)
			}
			if want {
				counts[c.Kind]++
			}
		}
	}
	for k, used := range usedFields() {
		if counts[k] != 4<<len(used) {
			t.Errorf("%d calls of the kind %d are valid", counts[k], k)
		}
		delete(counts, k)
	}
	if len(counts) != 0 {
		t.Errorf("there are other kinds: %v", counts)
	}
}

// TestP13CallOkWrittenOut has the document's list of fields once more.
func TestP13CallOkWrittenOut(t *testing.T) {
	o, text := op(keep(3)), letters(2)
	good := []impl.Call{
		{Kind: impl.ClOpen, Doc: "a", Text: text}, {Kind: impl.ClSubmit, Doc: "a", Client: 1, Seq: 1, N: 1, O: o}, {Kind: impl.ClFetch, Doc: "a", N: 1}, {Kind: impl.ClSnap, Doc: "a"},
		{Kind: impl.ClSub, Doc: "a", N: 1}, {Kind: impl.ClPoll, Client: 1, N: 1}, {Kind: impl.ClResync, Client: 1}, {Kind: impl.ClShut},
	}
	for _, c := range good {
		if !impl.CallOk(c) || !impl.CallOk(impl.Call{Kind: c.Kind}) {
			t.Errorf("CallOk(%v) is false, or it is without the fields", c)
		}
		for _, other := range []impl.Call{{Doc: "a"}, {Client: 1}, {Seq: 1}, {N: 1}, {O: o}, {Text: text}} {
			name := setFields(other)[0]
			alone, more := other, c
			alone.Kind = c.Kind
			switch name {
			case "Doc":
				more.Doc = other.Doc
			case "Client":
				more.Client = other.Client
			case "Seq":
				more.Seq = other.Seq
			case "N":
				more.N = other.N
			case "O":
				more.O = other.O
			case "Text":
				more.Text = other.Text
			}
			used := slices.Contains(setFields(c), name)
			if impl.CallOk(alone) != used || impl.CallOk(more) != used {
				t.Errorf("CallOk of the kind %d with %s is %v, with all its fields too %v", c.Kind, name, impl.CallOk(alone), impl.CallOk(more))
			}
		}
	}
}

func TestP13CallOkDoc(t *testing.T) {
	names := []string{"", "a", "abcdefg", "abcdefgh", "abcdefghi", "ABCDEFGH", "12345678", "123456789", "        ", "         ", "\xff\xff\xff\xff\xff\xff\xff\xff", "\xff\xff\xff\xff\xff\xff\xff\xff\xff",
		"\u00e9\u00e9\u00e9\u00e9", "\u00e9\u00e9\u00e9\u00e9a", "\u00e9\u00e9\u00e9\u00e9\u00e9", "\U0001f600\U0001f600", "\U0001f600\U0001f600\U0001f600", "\x00\x00\x00\x00\x00\x00\x00\x00", "\n", strings.Repeat("a", 16), strings.Repeat("a", 264), strings.Repeat("a", 100000)}
	for _, k := range kinds() {
		for _, name := range names {
			want := len(name) <= 8 && (k <= 5 || name == "")
			if impl.CallOk(impl.Call{Kind: k, Doc: name}) != want {
				t.Errorf("CallOk of the kind %d with the name %q is %v", k, name, !want)
			}
		}
	}
}

// TestP13CallOkNumbers: the numbers that a kind uses are not checked.
func TestP13CallOkNumbers(t *testing.T) {
	for _, n := range append(farNumbers(), -1, 0, 1, 7, 9, impl.MaxNum, impl.MaxNum+1, 1<<32) {
		for _, c := range []impl.Call{
			{Kind: impl.ClSubmit, Client: n}, {Kind: impl.ClSubmit, Seq: n}, {Kind: impl.ClSubmit, N: n}, {Kind: impl.ClSubmit, Doc: "?", Client: n, Seq: n, N: n}, {Kind: impl.ClFetch, N: n},
			{Kind: impl.ClSub, Doc: "a", N: n}, {Kind: impl.ClPoll, Client: n, N: 1}, {Kind: impl.ClPoll, N: n}, {Kind: impl.ClResync, Client: n},
		} {
			if !impl.CallOk(c) {
				t.Errorf("CallOk(%v) is false", c)
			}
		}
	}
}

func TestP13CallOkOp(t *testing.T) {
	send := func(o []impl.Part) impl.Call { return impl.Call{Kind: impl.ClSubmit, Doc: "a", O: o} }
	for _, n := range []int{0, 1, 2, impl.MaxParts - 1, impl.MaxParts, impl.MaxParts + 1, impl.MaxParts + 2, 4 * impl.MaxParts} {
		for _, p := range goodParts() {
			c := send(slices.Repeat(op(p), n))
			if want := n <= 600; impl.CallOk(c) != want {
				t.Errorf("CallOk with %d times %v is %v", n, p, !want)
			}
		}
	}
	for _, p := range badParts() {
		for at := range 4 {
			o := slices.Insert(op(keep(2), put(97, 98), drop(2)), at, p)
			if impl.CallOk(send(o)) || impl.CallOk(send(op(p))) {
				t.Errorf("CallOk with %v is true", o)
			}
		}
		if full := append(repeated(keep(1), 599), p); impl.CallOk(send(full)) {
			t.Errorf("CallOk with %v is true", full)
		}
	}
	// What is too long for an operation may still be in a call.
	for _, o := range tooLong() {
		if want := len(o) <= 600; impl.CallOk(send(o)) != want || impl.OpOk(o) {
			t.Errorf("CallOk with %v is %v", o, !want)
		}
	}
}

func TestP13CallOkText(t *testing.T) {
	for _, text := range [][]int{nil, {0}, {97}, {55295, 57344, impl.MaxSign}, numbered(199), numbered(200)} {
		if c := (impl.Call{Kind: impl.ClOpen, Doc: "a", Text: text}); !impl.CallOk(c) {
			t.Errorf("CallOk(%v) is false", c)
		}
	}
	for _, text := range badTexts() {
		if c := (impl.Call{Kind: impl.ClOpen, Doc: "a", Text: text}); impl.CallOk(c) {
			t.Errorf("CallOk(%v) is true", c)
		}
	}
}

// TestP13CallNilAndEmptyAreEqual has both in the fields that a kind uses and in
// those that it does not use.
func TestP13CallNilAndEmptyAreEqual(t *testing.T) {
	r := rand.New(rand.NewSource(71))
	base := baseHub()
	var calls []impl.Call
	for _, k := range append(kinds(), 0, 9) {
		calls = append(calls, impl.Call{Kind: k})
	}
	for _, c := range append(calls, callsOn(r, base)...) {
		absent, empty := c, c
		absent.O, empty.O = append([]impl.Part(nil), emptied(c.O, nil)...), append([]impl.Part{}, emptied(c.O, []int{})...)
		absent.Text, empty.Text = append([]int(nil), c.Text...), append([]int{}, c.Text...)
		if !impl.CallSame(absent, empty) || !impl.CallSame(empty, absent) || !impl.CallSame(c, empty) {
			t.Errorf("%v and %v differ", absent, empty)
		}
		for _, same := range []impl.Call{absent, empty} {
			if impl.CallOk(same) != soundCall(c) {
				t.Errorf("CallOk(%v) is %v", same, impl.CallOk(same))
			}
			checkDo(t, base, same)
			checkDo(t, withNoneInHub(base, true), same)
			checkDo(t, withNoneInHub(base, false), same)
		}
	}
}

// TestP9Do compares all calls with the model.
func TestP9Do(t *testing.T) {
	r := rand.New(rand.NewSource(72))
	codes, done := map[int]int{}, map[int]int{}
	for _, h := range hubCases() {
		for _, c := range callsOn(r, h) {
			_, a := checkDo(t, h, c)
			codes[a.Code]++
			if a.Code == impl.OtOk {
				done[c.Kind]++
			}
		}
	}
	hasCodes(t, codes, impl.OtOk, impl.OtInvalid, impl.OtFuture, impl.OtOld, impl.OtSeq, impl.OtLarge, impl.OtNoDoc, impl.OtHave, impl.OtNoSub, impl.OtEvicted, impl.OtFull, impl.OtClosed)
	hasCodes(t, done, kinds()...)
}

// TestP9DoIsTheHub: the codes, revisions, texts and entries are those of the
// functions of the hub.
func TestP9DoIsTheHub(t *testing.T) {
	r := rand.New(rand.NewSource(73))
	for _, h := range []impl.Hub{baseHub(), fullHub(), shutHub(baseHub()), badHubs()[0], {}} {
		for _, own := range hubCalls(r, h) {
			c := callOf(own)
			if !impl.CallOk(c) {
				continue
			}
			want := execute(h, own)
			if want.code != impl.OtOk {
				want.h = h
			}
			next, a := impl.Do(h, c)
			if !resultAlike(want, hubResult{h: next, n: a.Rev, text: a.Text, list: a.List, code: a.Code}) {
				t.Errorf("%v of %v: %v and %v, not %v", c, h, next, a, want)
			}
		}
	}
}

// TestP9DoOnBadHubs: whatever is asked, it is refused, and the hub comes back.
func TestP9DoOnBadHubs(t *testing.T) {
	r := rand.New(rand.NewSource(74))
	for i, h := range badHubs() {
		small := h
		small.Docs, small.Subs = h.Docs[:min(3, len(h.Docs))], h.Subs[:min(3, len(h.Subs))]
		for j, c := range callsOn(r, small) {
			switch (i + j) % 10 {
			case 0:
				rejectsCall(t, h, c, impl.OtInvalid)
			case 1:
				rejectsCall(t, shutHub(h), c, impl.OtInvalid)
			}
		}
	}
	bad := copiedHub(baseHub())
	bad.Subs[4].R.List[3].Client = 0
	for _, c := range callsOn(r, baseHub()) {
		rejectsCall(t, bad, c, impl.OtInvalid)
	}
}

// TestP9DoWrongCalls: they are refused in every hub, before all else.
func TestP9DoWrongCalls(t *testing.T) {
	bad := copiedHub(baseHub())
	bad.Last = -1
	for _, h := range []impl.Hub{baseHub(), fullHub(), shutHub(baseHub()), shutHub(fullHub()), bad, shutHub(bad), {}, {Shut: true}} {
		for _, c := range wrongCalls() {
			if impl.CallOk(c) {
				t.Fatalf("%v is valid", c)
			}
			rejectsCall(t, h, c, impl.OtInvalid)
		}
		for _, k := range noKinds() {
			for _, c := range []impl.Call{{Kind: k}, {Kind: k, Doc: "abc"}, {Kind: k, Doc: "abc", N: 6}, {Kind: k, Client: 2, N: 1}, {Kind: k, Client: 2}} {
				rejectsCall(t, h, c, impl.OtInvalid)
			}
		}
	}
	for _, p := range badParts() {
		rejectsCall(t, shutHub(baseHub()), impl.Call{Kind: impl.ClSubmit, Doc: "none", O: op(keep(1), p)}, impl.OtInvalid)
	}
	for _, text := range badTexts() {
		rejectsCall(t, shutHub(baseHub()), impl.Call{Kind: impl.ClOpen, Doc: "a", Text: text}, impl.OtInvalid)
	}
}

// doCase is a call with the code that it has in some hub.
type doCase struct {
	h    impl.Hub
	c    impl.Call
	code int
}

func (c doCase) check(t *testing.T) {
	t.Helper()
	if c.code != impl.OtOk {
		rejectsCall(t, c.h, c.c, c.code)
	}
	if _, a := checkDo(t, c.h, c.c); a.Code != c.code {
		t.Errorf("%v of %v: the code %d, not %d", c.c, c.h, a.Code, c.code)
	}
}

// TestP9FetchAndSnapCodes has each code alone, and the first one where several
// apply.
func TestP9FetchAndSnapCodes(t *testing.T) {
	base, full := baseHub(), fullHub()
	bad := copiedHub(base)
	bad.Docs[0].Seen[0].Rev = 3
	fetch := func(name string, rev int) impl.Call { return impl.Call{Kind: impl.ClFetch, Doc: name, N: rev} }
	snap := func(name string) impl.Call { return impl.Call{Kind: impl.ClSnap, Doc: name} }
	more := fetch("abc", 6)
	more.Seq = 1
	cases := []doCase{
		{base, fetch("a", 0), impl.OtOk}, {base, fetch("a", 2), impl.OtOk}, {base, fetch("abc", 5), impl.OtOk}, {base, fetch("abc", 9), impl.OtOk}, {full, fetch("zzzzzzzz", lastFrom), impl.OtOk}, {full, fetch("b", 0), impl.OtOk},
		{bad, fetch("abc", 6), impl.OtInvalid}, {base, more, impl.OtInvalid}, {base, fetch("abcdefghi", 6), impl.OtInvalid}, {shutHub(base), fetch("abc", 6), impl.OtClosed},
		{base, fetch("ab", 6), impl.OtNoDoc}, {base, fetch("", 0), impl.OtNoDoc}, {base, fetch("abcdefgh", 0), impl.OtNoDoc}, {base, fetch("A", 0), impl.OtNoDoc}, {base, fetch("a b", 0), impl.OtNoDoc}, {impl.Hub{}, fetch("a", 0), impl.OtNoDoc},
		{base, fetch("a", 3), impl.OtFuture}, {base, fetch("a", math.MaxInt), impl.OtFuture}, {base, fetch("a", 1<<32), impl.OtFuture}, {base, fetch("a", -1), impl.OtOld}, {base, fetch("a", math.MinInt), impl.OtOld}, {base, fetch("abc", 4), impl.OtOld}, {base, fetch("abc", 0), impl.OtOld},
		{base, snap("a"), impl.OtOk}, {base, snap("abc"), impl.OtOk}, {base, snap("abcdefgz"), impl.OtOk}, {full, snap("zzzzzzzz"), impl.OtOk}, {full, snap("b"), impl.OtOk},
		{bad, snap("abc"), impl.OtInvalid}, {base, impl.Call{Kind: impl.ClSnap, Doc: "a", N: 2}, impl.OtInvalid}, {base, snap("abcdefghi"), impl.OtInvalid}, {shutHub(base), snap("abc"), impl.OtClosed},
		{base, snap("ab"), impl.OtNoDoc}, {base, snap(""), impl.OtNoDoc}, {base, snap("A"), impl.OtNoDoc}, {impl.Hub{}, snap("a"), impl.OtNoDoc}, {impl.Hub{Last: 3}, snap("abcdefgh"), impl.OtNoDoc},
		// Several at once.
		{shutHub(bad), fetch("ab", 77), impl.OtInvalid}, {bad, fetch("ab", 6), impl.OtInvalid}, {bad, fetch("a", 77), impl.OtInvalid}, {shutHub(base), more, impl.OtInvalid}, {shutHub(base), fetch("abcdefghi", 6), impl.OtInvalid},
		{shutHub(base), fetch("ab", 6), impl.OtClosed}, {shutHub(base), fetch("abc", 77), impl.OtClosed}, {shutHub(base), fetch("abc", -1), impl.OtClosed}, {impl.Hub{Shut: true}, fetch("a", 1), impl.OtClosed}, {base, fetch("ab", -1), impl.OtNoDoc}, {base, fetch("", 77), impl.OtNoDoc},
		{shutHub(bad), snap("abc"), impl.OtInvalid}, {bad, snap("ab"), impl.OtInvalid}, {shutHub(base), impl.Call{Kind: impl.ClSnap, Doc: "ab", N: 1}, impl.OtInvalid}, {shutHub(base), snap("ab"), impl.OtClosed}, {impl.Hub{Shut: true}, snap(""), impl.OtClosed},
	}
	for _, c := range cases {
		c.check(t)
	}
}

// TestP9DoCodes has the codes of the functions of the hub, and OtInvalid for a
// call that is not valid in front of them.
func TestP9DoCodes(t *testing.T) {
	base, full := baseHub(), fullHub()
	late := copiedHub(base)
	late.Last = impl.MaxNum
	open := func(name string, text []int) impl.Call { return impl.Call{Kind: impl.ClOpen, Doc: name, Text: text} }
	send := func(name string, client int, seq int, rev int, o []impl.Part) impl.Call {
		return impl.Call{Kind: impl.ClSubmit, Doc: name, Client: client, Seq: seq, N: rev, O: o}
	}
	join := func(name string, room int) impl.Call { return impl.Call{Kind: impl.ClSub, Doc: name, N: room} }
	poll := func(id int, n int) impl.Call { return impl.Call{Kind: impl.ClPoll, Client: id, N: n} }
	resync := func(id int) impl.Call { return impl.Call{Kind: impl.ClResync, Client: id} }
	shut, wrong, long := impl.Call{Kind: impl.ClShut}, op(keep(3), drop(-1)), op(keep(200), keep(200))
	var cases []doCase
	for _, h := range []impl.Hub{badHubs()[0], shutHub(badHubs()[1])} {
		for _, c := range []impl.Call{open("a", nil), open("abd", nil), send("abc", 2, 1, 9, op(keep(3))), send("none", 0, 0, -1, long), join("a", 1), join("none", 7), poll(5, 1), poll(6, 1), poll(77, 1), resync(5), resync(77), shut} {
			cases = append(cases, doCase{h, c, impl.OtInvalid})
		}
	}
	cases = append(cases,
		doCase{base, open("abd", letters(9)), impl.OtOk}, doCase{base, open("abD", nil), impl.OtInvalid}, doCase{base, open("", nil), impl.OtInvalid}, doCase{shutHub(full), open("a b", nil), impl.OtInvalid}, doCase{full, open("abcdefghi", nil), impl.OtInvalid},
		doCase{shutHub(full), open("a", nil), impl.OtClosed}, doCase{full, open("a", nil), impl.OtHave}, doCase{full, open("abd", nil), impl.OtFull},
		doCase{base, send("abc", 2, 1, 9, op(keep(3))), impl.OtOk}, doCase{shutHub(base), send("none", 2, 1, 9, wrong), impl.OtInvalid}, doCase{shutHub(base), send("none", 2, 1, 9, long), impl.OtClosed}, doCase{base, send("none", 0, 1, 9, long), impl.OtNoDoc},
		doCase{base, send("abc", 2, 1, 9, long), impl.OtInvalid}, doCase{base, send("abc", 0, 1, 9, op(keep(3))), impl.OtInvalid}, doCase{base, send("abc", 2, 2, 77, op(keep(3))), impl.OtSeq}, doCase{base, send("abc", 2, 1, 77, op(keep(4))), impl.OtFuture},
		doCase{base, send("abc", 2, 1, 4, op(keep(4))), impl.OtOld}, doCase{base, send("abc", 2, 1, 9, op(keep(4))), impl.OtInvalid}, doCase{full, send("zzzzzzzz", 8, 93, lastFrom+8, op()), impl.OtLarge},
		doCase{base, join("abc", 6), impl.OtOk}, doCase{shutHub(full), join("none", 7), impl.OtInvalid}, doCase{base, join("abc", 0), impl.OtInvalid}, doCase{shutHub(full), join("none", 6), impl.OtClosed}, doCase{full, join("none", 1), impl.OtNoDoc}, doCase{full, join("a", 1), impl.OtFull}, doCase{late, join("a", 1), impl.OtFull},
		doCase{base, shut, impl.OtOk}, doCase{shutHub(base), shut, impl.OtClosed}, doCase{shutHub(base), impl.Call{Kind: impl.ClShut, Client: 1}, impl.OtInvalid},
	)
	for _, h := range []impl.Hub{base, shutHub(base)} {
		cases = append(cases,
			doCase{h, poll(5, 2), impl.OtOk}, doCase{h, poll(77, 0), impl.OtInvalid}, doCase{h, poll(6, 0), impl.OtInvalid}, doCase{h, poll(77, 1), impl.OtNoSub}, doCase{h, poll(0, 1), impl.OtNoSub}, doCase{h, poll(6, 1), impl.OtEvicted},
			doCase{h, resync(6), impl.OtOk}, doCase{h, resync(0), impl.OtNoSub}, doCase{h, resync(77), impl.OtNoSub}, doCase{h, impl.Call{Kind: impl.ClResync, Client: 77, N: 1}, impl.OtInvalid},
		)
	}
	for _, c := range cases {
		c.check(t)
	}
}

// TestP13DoWrittenOut has the whole answer of a call of each kind: besides the
// code, only what the document gives to the kind.
func TestP13DoWrittenOut(t *testing.T) {
	base := baseHub()
	a, abc := base.Docs[0], base.Docs[1]
	cases := []struct {
		c impl.Call
		a impl.Answer
	}{
		{impl.Call{Kind: impl.ClOpen, Doc: "abd", Text: letters(5)}, impl.Answer{}},
		{impl.Call{Kind: impl.ClSubmit, Doc: "abc", Client: 2, Seq: 1, N: 9, O: op(put(65), keep(3))}, impl.Answer{Rev: 10}},
		{impl.Call{Kind: impl.ClSubmit, Doc: "a", Client: 1, Seq: 10}, impl.Answer{Rev: 1}},
		{impl.Call{Kind: impl.ClFetch, Doc: "a"}, impl.Answer{List: a.List}},
		{impl.Call{Kind: impl.ClFetch, Doc: "a", N: 1}, impl.Answer{List: a.List[1:]}},
		{impl.Call{Kind: impl.ClFetch, Doc: "a", N: 2}, impl.Answer{}},
		{impl.Call{Kind: impl.ClFetch, Doc: "abc", N: 7}, impl.Answer{List: abc.List[2:]}},
		{impl.Call{Kind: impl.ClSnap, Doc: "a"}, impl.Answer{Rev: 2, Text: []int{66, 97, 98, 65}}},
		{impl.Call{Kind: impl.ClSnap, Doc: "abc"}, impl.Answer{Rev: 9, Text: []int{68, 66, 69}}},
		{impl.Call{Kind: impl.ClSub, Doc: "a", N: 2}, impl.Answer{Rev: 12}},
		{impl.Call{Kind: impl.ClPoll, Client: 5, N: 2}, impl.Answer{List: waiting(2)}},
		{impl.Call{Kind: impl.ClPoll, Client: 2, N: 2}, impl.Answer{}},
		{impl.Call{Kind: impl.ClResync, Client: 6}, impl.Answer{Rev: 9, Text: []int{68, 66, 69}}},
		{impl.Call{Kind: impl.ClShut}, impl.Answer{}},
	}
	for _, c := range cases {
		next, got := checkDo(t, base, c.c)
		if !answerAlike(got, c.a) {
			t.Errorf("%v: %v, not %v", c.c, got, c.a)
		}
		reads := c.c.Kind == impl.ClFetch || c.c.Kind == impl.ClSnap || len(c.c.O) == 0 && c.c.Kind == impl.ClSubmit || c.c.Kind == impl.ClPoll && c.c.Client == 2
		if hubAlike(next, base) != reads {
			t.Errorf("%v: the hub becomes %v", c.c, next)
		}
	}
}

// TestP13FetchAndSnapOfAll: every revision of every document, compared with the
// functions of the document. The hub stays as it is.
func TestP13FetchAndSnapOfAll(t *testing.T) {
	for i, own := range hubCases() {
		h := own
		h.Shut = false
		for j, d := range h.Docs {
			next, a := impl.Do(h, impl.Call{Kind: impl.ClSnap, Doc: d.Name})
			if !answerAlike(a, impl.Answer{Rev: headOf(d), Text: impl.HeadText(d)}) || !hubAlike(next, h) {
				t.Errorf("the snapshot of %q in %v: %v and %v", d.Name, h, next, a)
			}
			if (i+j)%4 != 0 {
				continue
			}
			for rev := d.From - 2; rev <= headOf(d)+2; rev++ {
				l, code := impl.Fetch(d, rev)
				next, a := impl.Do(h, impl.Call{Kind: impl.ClFetch, Doc: d.Name, N: rev})
				if !answerAlike(a, impl.Answer{Code: code, List: l}) || !hubAlike(next, h) {
					t.Errorf("the entries of %q after %d in %v: %v and %v", d.Name, rev, h, next, a)
				}
			}
		}
	}
}

// changedAnswers are copies of an answer of which each differs in one place.
func changedAnswers() (impl.Answer, []impl.Answer) {
	base := func() impl.Answer {
		return impl.Answer{Code: 3, Rev: 4, Text: letters(3), List: copiedRing(impl.Ring{List: waiting(3)}).List}
	}
	var l []impl.Answer
	with := func(change func(a *impl.Answer)) {
		a := base()
		change(&a)
		l = append(l, a)
	}
	for _, n := range append(farNumbers(), -4, -3, 0, 2, 5, 3+1<<32, 4+1<<32) {
		with(func(a *impl.Answer) { a.Code = n })
		with(func(a *impl.Answer) { a.Rev = n })
	}
	with(func(a *impl.Answer) { a.Code, a.Rev = a.Rev, a.Code })
	for at := range 3 {
		with(func(a *impl.Answer) { a.Text[at]++ })
		with(func(a *impl.Answer) { a.Text[at] += 1 << 32 })
		with(func(a *impl.Answer) { a.Text = a.Text[:at] })
		with(func(a *impl.Answer) { a.Text = slices.Insert(a.Text, at, a.Text[at]) })
		with(func(a *impl.Answer) { a.List[at].Client++ })
		with(func(a *impl.Answer) { a.List[at].Seq++ })
		with(func(a *impl.Answer) { a.List[at].O = append(a.List[at].O, keep(0)) })
		with(func(a *impl.Answer) { a.List = a.List[:at] })
		with(func(a *impl.Answer) { a.List = slices.Insert(a.List, at, a.List[at]) })
	}
	with(func(a *impl.Answer) { a.Text = append(a.Text, 0) })
	with(func(a *impl.Answer) { a.List = append(a.List, impl.Entry{}) })
	with(func(a *impl.Answer) { slices.Reverse(a.Text) })
	with(func(a *impl.Answer) { slices.Reverse(a.List) })
	with(func(a *impl.Answer) { a.List[0].O[0].N++ })
	with(func(a *impl.Answer) { a.List[0].O[0].Kind = impl.PtDrop })
	with(func(a *impl.Answer) { a.List[0].O[1].Signs[1]++ })
	with(func(a *impl.Answer) { a.List[2].O[0].Signs[199]++ })
	return base(), append(l, impl.Answer{})
}

func TestP13AnswerSame(t *testing.T) {
	base, others := changedAnswers()
	for _, other := range others {
		if impl.AnswerSame(base, other) || impl.AnswerSame(other, base) || answerAlike(base, other) {
			t.Errorf("AnswerSame(%v, %v) is true", base, other)
		}
	}
	all := append(others, base, impl.Answer{Code: 3}, impl.Answer{Rev: 4}, impl.Answer{Text: letters(3)}, impl.Answer{List: waiting(3)})
	for _, a := range all {
		twin := impl.Answer{Code: a.Code, Rev: a.Rev, Text: slices.Clone(a.Text), List: copiedRing(impl.Ring{List: a.List}).List}
		if !impl.AnswerSame(a, a) || !impl.AnswerSame(a, twin) || !impl.AnswerSame(twin, a) {
			t.Errorf("AnswerSame of %v and itself is false", a)
		}
		for _, b := range all {
			if impl.AnswerSame(a, b) != answerAlike(a, b) {
				t.Errorf("AnswerSame(%v, %v) is %v", a, b, impl.AnswerSame(a, b))
			}
		}
	}
	empty := impl.Answer{Text: []int{}, List: []impl.Entry{}}
	if !impl.AnswerSame(empty, impl.Answer{}) || !impl.AnswerSame(impl.Answer{}, empty) {
		t.Error("nil and empty lists differ")
	}
	absent, none := impl.Answer{List: entries(nil, op(put()))}, impl.Answer{List: entries(op(), op(put([]int{}...)))}
	if !impl.AnswerSame(absent, none) || !impl.AnswerSame(none, absent) {
		t.Errorf("%v and %v differ", absent, none)
	}
}

// changedCalls are copies of a call of which each differs in one place.
func changedCalls() (impl.Call, []impl.Call) {
	base := func() impl.Call {
		return impl.Call{Kind: 2, Doc: "abc", Client: 3, Seq: 4, N: 5, O: op(keep(3), put(97, 98), drop(2)), Text: letters(3)}
	}
	var l []impl.Call
	with := func(change func(c *impl.Call)) {
		c := base()
		change(&c)
		l = append(l, c)
	}
	for _, n := range append(farNumbers(), -5, -2, 0, 1, 6, 2+1<<32, 3+1<<32, 4+1<<32, 5+1<<32) {
		with(func(c *impl.Call) { c.Kind = n })
		with(func(c *impl.Call) { c.Client = n })
		with(func(c *impl.Call) { c.Seq = n })
		with(func(c *impl.Call) { c.N = n })
	}
	for _, name := range []string{"", "a", "ab", "abcd", "abd", "ABC", "abc ", "\x00abc"} {
		with(func(c *impl.Call) { c.Doc = name })
	}
	for at := range 3 {
		with(func(c *impl.Call) { c.Text[at]++ })
		with(func(c *impl.Call) { c.Text = c.Text[:at] })
		with(func(c *impl.Call) { c.Text = slices.Insert(c.Text, at, c.Text[at]) })
		with(func(c *impl.Call) { c.O[at].Kind++ })
		with(func(c *impl.Call) { c.O[at].N++ })
		with(func(c *impl.Call) { c.O[at].Signs = append(c.O[at].Signs, 97) })
		with(func(c *impl.Call) { c.O = c.O[:at] })
		with(func(c *impl.Call) { c.O = slices.Insert(c.O, at, keep(0)) })
	}
	with(func(c *impl.Call) { c.Text = append(c.Text, 0) })
	with(func(c *impl.Call) { c.O = append(c.O, impl.Part{}) })
	with(func(c *impl.Call) { c.O[1].Signs[1]++ })
	with(func(c *impl.Call) { c.O[1], c.O[2] = c.O[2], c.O[1] })
	with(func(c *impl.Call) { slices.Reverse(c.Text) })
	with(func(c *impl.Call) { c.Client, c.Seq = c.Seq, c.Client })
	with(func(c *impl.Call) { c.Seq, c.N = c.N, c.Seq })
	return base(), append(l, impl.Call{})
}

func TestP13CallSame(t *testing.T) {
	base, others := changedCalls()
	for _, other := range others {
		if impl.CallSame(base, other) || impl.CallSame(other, base) || callAlike(base, other) {
			t.Errorf("CallSame(%v, %v) is true", base, other)
		}
	}
	all := slices.Concat(others, []impl.Call{base}, someFields())
	for i, a := range all {
		twin, _ := sparedUse(a)
		if !impl.CallSame(a, a) || !impl.CallSame(a, twin) || !impl.CallSame(twin, a) {
			t.Errorf("CallSame of %v and itself is false", a)
		}
		for _, b := range all[:i] {
			if impl.CallSame(a, b) != callAlike(a, b) || impl.CallSame(b, a) != callAlike(a, b) {
				t.Errorf("CallSame(%v, %v) is %v", a, b, impl.CallSame(a, b))
			}
		}
	}
}

// checkDoAll compares DoAll with one Do after the other.
func checkDoAll(t *testing.T, h impl.Hub, l []impl.Call) (impl.Hub, []impl.Answer) {
	t.Helper()
	want := h
	var said []impl.Answer
	for _, c := range l {
		var a impl.Answer
		want, a = impl.Do(want, c)
		said = append(said, a)
	}
	got, answers := impl.DoAll(h, l)
	if !hubAlike(got, want) || !slices.EqualFunc(answers, said, answerAlike) {
		t.Fatalf("DoAll(%v, %v): %v and %v, not %v and %v", h, l, got, answers, want, said)
	}
	return got, answers
}

func TestP13DoAllWrittenOut(t *testing.T) {
	send := impl.Call{Kind: impl.ClSubmit, Doc: "a", Client: 2, Seq: 1, O: op(keep(2), put(65), drop(1))}
	e := []impl.Entry{{Client: 2, Seq: 1, O: op(keep(2), put(65), drop(1))}}
	last := impl.Entry{Client: 1, Seq: 1, O: op(put(66, 67), keep(3))}
	steps := []struct {
		c impl.Call
		a impl.Answer
	}{
		{impl.Call{Kind: impl.ClSnap, Doc: "a"}, impl.Answer{Code: impl.OtNoDoc}},
		{impl.Call{Kind: impl.ClOpen, Doc: "a", Text: letters(3)}, impl.Answer{}},
		{impl.Call{Kind: impl.ClOpen, Doc: "a"}, impl.Answer{Code: impl.OtHave}},
		{impl.Call{Kind: impl.ClSub, Doc: "a", N: 1}, impl.Answer{Rev: 1}},
		{send, impl.Answer{Rev: 1}},
		{send, impl.Answer{Rev: 1}},
		{impl.Call{Kind: impl.ClFetch, Doc: "a"}, impl.Answer{List: e}},
		{impl.Call{Kind: impl.ClPoll, Client: 1, N: 9}, impl.Answer{List: e}},
		{impl.Call{Kind: impl.ClPoll, Client: 1, N: 9}, impl.Answer{}},
		{impl.Call{Kind: impl.ClSubmit, Doc: "a", Client: 1, Seq: 1, N: 0, O: op(put(66, 67), keep(3))}, impl.Answer{Rev: 2}},
		{impl.Call{Kind: impl.ClSubmit, Doc: "a", Client: 1, Seq: 2, N: 9, O: op(keep(3))}, impl.Answer{Code: impl.OtFuture}},
		{impl.Call{Kind: impl.ClSubmit, Doc: "a", Client: 1, Seq: 2, N: 2, O: op(keep(5))}, impl.Answer{Rev: 3}},
		{impl.Call{Kind: impl.ClPoll, Client: 1, N: 9}, impl.Answer{Code: impl.OtEvicted}},
		{impl.Call{Kind: impl.ClResync, Client: 1}, impl.Answer{Rev: 3, Text: []int{66, 67, 97, 98, 65}}},
		{impl.Call{Kind: impl.ClShut, N: 1}, impl.Answer{Code: impl.OtInvalid}},
		{impl.Call{Kind: impl.ClShut}, impl.Answer{}},
		{impl.Call{Kind: impl.ClSnap, Doc: "a"}, impl.Answer{Code: impl.OtClosed}},
		{impl.Call{Kind: impl.ClPoll, Client: 1, N: 9}, impl.Answer{}},
	}
	var l []impl.Call
	var said []impl.Answer
	for n, s := range steps {
		l, said = append(l, s.c), append(said, s.a)
		h, answers := checkDoAll(t, impl.Hub{}, l)
		if !slices.EqualFunc(answers, said, answerAlike) || !impl.HubOk(h) {
			t.Fatalf("the first %d calls: %v and %v", n+1, h, answers)
		}
	}
	h, _ := impl.DoAll(impl.Hub{}, l)
	want := impl.Hub{Shut: true, Last: 1, Docs: []impl.Doc{{Name: "a", Text: letters(3), List: append(e, last, impl.Entry{Client: 1, Seq: 2, O: op(keep(5))}), Seen: []impl.Seen{{Client: 1, Seq: 2, Rev: 3}, {Client: 2, Seq: 1, Rev: 1}}}}}
	want.Subs = []impl.Sub{{Id: 1, Doc: "a", R: impl.Ring{Cap: 1, Next: 4}}}
	if !hubAlike(h, want) {
		t.Errorf("the hub is %v, not %v", h, want)
	}
}

// TestP13DoAllCounts has no call, one, and several, in hubs of all sorts.
func TestP13DoAllCounts(t *testing.T) {
	r := rand.New(rand.NewSource(75))
	bad := badHubs()
	for i, h := range slices.Concat(hubCases(), bad[:40], []impl.Hub{shutHub(bad[3])}) {
		for _, none := range [][]impl.Call{nil, {}} {
			if got, answers := checkDoAll(t, h, none); !hubAlike(got, h) || len(answers) != 0 {
				t.Errorf("DoAll of no call on %v: %v and %v", h, got, answers)
			}
		}
		calls := callsOn(r, h)
		for range 3 {
			c := calls[r.Intn(len(calls))]
			want, said := modelDo(h, c)
			if got, answers := checkDoAll(t, h, []impl.Call{c}); !hubAlike(got, want) || len(answers) != 1 || !answerAlike(answers[0], said) {
				t.Errorf("DoAll of %v on %v: %v and %v", c, h, got, answers)
			}
		}
		r.Shuffle(len(calls), func(a int, b int) { calls[a], calls[b] = calls[b], calls[a] })
		if _, answers := checkDoAll(t, h, calls[:min(len(calls), 2+i%20)]); len(answers) != min(len(calls), 2+i%20) {
			t.Errorf("DoAll on %v: %v", h, answers)
		}
	}
}

// TestP9DoAllOnBadHubs: every call is answered, and the hub stays as it is.
func TestP9DoAllOnBadHubs(t *testing.T) {
	calls := []impl.Call{{Kind: impl.ClSnap, Doc: "a"}, {Kind: impl.ClShut}, {}, {Kind: impl.ClResync, Client: 2}, {Kind: impl.ClOpen, Doc: "abd"}}
	for _, h := range badHubs() {
		got, answers := impl.DoAll(h, calls)
		if !hubAlike(got, h) || len(answers) != len(calls) || slices.ContainsFunc(answers, func(a impl.Answer) bool { return !answerAlike(a, impl.Answer{Code: impl.OtInvalid}) }) {
			t.Errorf("DoAll on %v: %v and %v", h, got, answers)
		}
	}
}

// sparedUse returns a deep copy of c with spare capacity behind every slice, and
// a check that none of it was written.
func sparedUse(c impl.Call) (impl.Call, func() bool) {
	text, keptText := spared(c.Text)
	o, keptOp := sparedOp(c.O)
	c.Text, c.O, c.Doc = text, o, strings.Clone(c.Doc)
	return c, func() bool { return keptText() && keptOp() }
}

// sparedUses is the same for a list of calls.
func sparedUses(l []impl.Call) ([]impl.Call, func() bool) {
	var whole []impl.Call
	var checks []func() bool
	for _, c := range l {
		own, kept := sparedUse(c)
		whole, checks = append(whole, own), append(checks, kept)
	}
	whole = append(whole, impl.Call{Kind: 4, Doc: "spare"}, impl.Call{Kind: 8})
	wanted := slices.Clone(whole)
	return whole[:len(l)], func() bool {
		for _, kept := range checks {
			if !kept() {
				return false
			}
		}
		return slices.EqualFunc(whole, wanted, callAlike)
	}
}

func spoilCalls(l []impl.Call) {
	for _, c := range l {
		spoil(c.Text)
		spoilOp(c.O)
	}
	clear(l[:cap(l)])
}

// spoilAnswers overwrites every slice of l up to its capacity.
func spoilAnswers(l []impl.Answer) {
	for _, a := range l {
		spoil(a.Text)
		spoilEntries(a.List)
	}
	clear(l[:cap(l)])
}

// separateAnswers reports whether no two slices of h and l share memory. It
// overwrites all of them, up to their capacity.
func separateAnswers(h impl.Hub, l []impl.Answer) bool {
	var texts [][]int
	var lists [][]impl.Entry
	for _, a := range l {
		texts, lists = append(texts, a.Text), append(lists, a.List)
	}
	return separateHub(h, texts, lists)
}

func TestP13CallArgumentsAreNotChanged(t *testing.T) {
	r := rand.New(rand.NewSource(76))
	_, answers := changedAnswers()
	_, others := changedCalls()
	for i, own := range slices.Concat(hubCases(), badHubs()) {
		if i%2 != 0 {
			continue
		}
		small := own
		small.Docs, small.Subs = own.Docs[:min(5, len(own.Docs))], own.Subs[:min(6, len(own.Subs))]
		h, kept := sparedHub(own)
		calls, keptCalls := sparedUses(append(callsOn(r, small), others[i%len(others)]))
		for j, c := range calls {
			impl.CallOk(c)
			impl.CallSame(c, calls[(i+j)%len(calls)])
			impl.Do(h, c)
		}
		impl.DoAll(h, calls[:i%10])
		impl.DoAll(h, calls[len(calls)-i%20:])
		a := answers[i%len(answers)]
		list, keptList := sparedDoc(impl.Doc{Text: a.Text, List: a.List})
		b := impl.Answer{Code: a.Code, Rev: a.Rev, Text: list.Text, List: list.List}
		impl.AnswerSame(b, answers[0])
		impl.AnswerSame(answers[1], b)
		if !kept() || !keptCalls() || !keptList() {
			t.Errorf("an argument was changed: %v, %v, %v", own, calls, a)
		}
	}
}

// TestP13DoSharesNothing also has calls that are rejected and hubs that are not
// valid, as there is a hub in every result.
func TestP13DoSharesNothing(t *testing.T) {
	r := rand.New(rand.NewSource(77))
	bad := badHubs()
	for i, own := range slices.Concat(hubCases(), bad[:20], bad[len(bad)-8:len(bad)-1]) {
		calls := callsOn(r, own)
		for j, ownCall := range calls {
			want, said := modelDo(own, ownCall)
			// Each result is a whole hub: some of them are enough.
			if (i+j)%8 != 0 && (said.Code != impl.OtOk || (i+j)%2 != 0) {
				continue
			}
			h, kept := sparedHub(own)
			c, keptCall := sparedUse(ownCall)
			spoiled, first := impl.Do(h, c)
			got, a := impl.Do(h, c)
			if takesName(got, h, hubCall{name: c.Doc}) {
				t.Fatalf("%v of %v shares a name", ownCall, own)
			}
			if !separateAnswers(spoiled, []impl.Answer{first}) {
				t.Fatalf("%v of %v: two slices share memory", ownCall, own)
			}
			spoilHub(spoiled)
			spoilAnswers([]impl.Answer{first})
			if !kept() || !keptCall() || !hubAlike(got, want) || !answerAlike(a, said) {
				t.Fatalf("%v of %v shares memory with an argument or with another result", ownCall, own)
			}
			spoilHub(h)
			spoilCalls([]impl.Call{c})
			if !hubAlike(got, want) || !answerAlike(a, said) {
				t.Fatalf("%v of %v depends on an argument after the call", ownCall, own)
			}
		}
	}
}

// longScript is a list of calls, of which baseHub executes all but the third one
// and some of the last ones.
func longScript() []impl.Call {
	l := []impl.Call{{Kind: impl.ClOpen, Doc: "b", Text: numbered(30)}, {Kind: impl.ClSub, Doc: "b", N: 3}, {Kind: impl.ClSub, Doc: "ab", N: 3}}
	for seq := 1; seq <= 4; seq++ {
		l = append(l, impl.Call{Kind: impl.ClSubmit, Doc: "b", Client: 4, Seq: seq, N: seq - 1, O: op(keep(29+seq), put(65))})
		l = append(l, impl.Call{Kind: impl.ClFetch, Doc: "b"}, impl.Call{Kind: impl.ClSnap, Doc: "b"}, impl.Call{Kind: impl.ClPoll, Client: 12, N: 1 + seq%2}, impl.Call{Kind: impl.ClPoll, Client: 5, N: 1}, impl.Call{Kind: impl.ClPoll, Client: 9, N: 1})
	}
	return append(l, impl.Call{Kind: impl.ClResync, Client: 6}, impl.Call{Kind: impl.ClResync, Client: 9}, impl.Call{Kind: impl.ClShut}, impl.Call{Kind: impl.ClSnap, Doc: "a"}, impl.Call{Kind: 9}, impl.Call{Kind: impl.ClPoll, Client: 3, N: 9})
}

func TestP13DoAllSharesNothing(t *testing.T) {
	script := longScript()
	bad := badHubs()
	for i, own := range []impl.Hub{baseHub(), fullHub(), shutHub(baseHub()), {}, bad[0], bad[20], bad[len(bad)-2]} {
		for n := 0; n <= len(script); n++ {
			if i > 0 && n%5 != 0 {
				continue
			}
			want, said := impl.DoAll(own, script[:n])
			h, kept := sparedHub(own)
			l, keptCalls := sparedUses(script[:n])
			spoiled, first := impl.DoAll(h, l)
			got, answers := impl.DoAll(h, l)
			for _, c := range append(slices.Clone(l), impl.Call{}) {
				if takesName(got, h, hubCall{name: c.Doc}) {
					t.Fatalf("DoAll(%v, %v) shares a name", own, l)
				}
			}
			if !separateAnswers(spoiled, first) {
				t.Fatalf("DoAll(%v, %v): two slices share memory", own, l)
			}
			spoilHub(spoiled)
			spoilAnswers(first)
			same := func() bool { return hubAlike(got, want) && slices.EqualFunc(answers, said, answerAlike) }
			if !kept() || !keptCalls() || !same() {
				t.Fatalf("DoAll(%v, %v) shares memory with an argument or with another result", own, l)
			}
			spoilHub(h)
			spoilCalls(l)
			if !same() {
				t.Fatalf("DoAll(%v, %v) depends on an argument after the call", own, script[:n])
			}
		}
	}
}

// TestP13CallsOfOneList has the same characters in the documents, the rings and
// the calls.
func TestP13CallsOfOneList(t *testing.T) {
	all := letters(6)
	o := op(put(all[1:3]...), drop(2), keep(1))
	list := entries(o, o)
	d := impl.Doc{Name: "a", Text: all[:3], List: list}
	h := impl.Hub{Docs: []impl.Doc{d, {Name: "b", Text: all[:3], List: list}}, Last: 2}
	for id, name := range []string{"a", "b"} {
		h.Subs = append(h.Subs, impl.Sub{Id: id + 1, Doc: name, R: impl.Ring{Cap: 4, Next: 1, List: list}})
	}
	l := []impl.Call{
		{Kind: impl.ClFetch, Doc: "a"}, {Kind: impl.ClSnap, Doc: "b"}, {Kind: impl.ClOpen, Doc: "d", Text: all[:3]}, {Kind: impl.ClSubmit, Doc: "a", Client: 1, Seq: 1, N: 2, O: o}, {Kind: impl.ClSubmit, Doc: "d", Client: 1, Seq: 1, O: o},
		{Kind: impl.ClPoll, Client: 1, N: 2}, {Kind: impl.ClResync, Client: 2}, {Kind: impl.ClSub, Doc: "d", N: 2}, {Kind: impl.ClFetch, Doc: "a"}, {Kind: impl.ClSnap, Doc: "b"}, {Kind: impl.ClShut}, {Kind: impl.ClShut},
	}
	for _, c := range l {
		next, a := checkDo(t, h, c)
		if !separateAnswers(next, []impl.Answer{a}) {
			t.Errorf("%v: two slices share memory", c)
		}
	}
	next, answers := checkDoAll(t, h, l)
	for i, a := range answers[:len(l)-1] {
		if a.Code != impl.OtOk {
			t.Errorf("%v: the code %d", l[i], a.Code)
		}
	}
	if !separateAnswers(next, answers) {
		t.Error("two slices of DoAll share memory")
	}
	if !slices.Equal(all, letters(6)) || !alike(o, op(put(98, 99), drop(2), keep(1))) {
		t.Errorf("the characters became %v, the operation %v", all, o)
	}
}

func TestP13CallResultsAreAlwaysTheSame(t *testing.T) {
	r := rand.New(rand.NewSource(78))
	script := longScript()
	for _, h := range []impl.Hub{baseHub(), fullHub()} {
		for _, c := range callsOn(r, h) {
			want, said := modelDo(h, c)
			for range 10 {
				if got, a := impl.Do(h, c); !hubAlike(got, want) || !answerAlike(a, said) {
					t.Fatalf("%v of %v depends on something else: %v and %v", c, h, got, a)
				}
			}
		}
		want, said := impl.DoAll(h, script)
		for range 20 {
			if got, answers := impl.DoAll(h, script); !hubAlike(got, want) || !slices.EqualFunc(answers, said, answerAlike) {
				t.Fatalf("DoAll on %v depends on something else", h)
			}
		}
	}
}

// TestP9ManyDos follows a hub from call to call: a rejected one leaves it as it
// was, an executed one leaves it valid. In the end, DoAll leads there as well.
func TestP9ManyDos(t *testing.T) {
	r := rand.New(rand.NewSource(79))
	codes := map[int]int{}
	for range 40 {
		first := impl.Hub{Last: r.Intn(2) * (impl.MaxNum - 3)}
		h := first
		var calls []impl.Call
		var answers []impl.Answer
		for range 150 {
			c := randomCall(r, h)
			next, a := checkDo(t, h, c)
			if (a.Code != impl.OtOk || c.Kind == impl.ClFetch || c.Kind == impl.ClSnap) && !impl.HubSame(next, h) {
				t.Fatalf("%v changes %v to %v", c, h, next)
			}
			calls, answers, h = append(calls, c), append(answers, a), next
			codes[a.Code]++
		}
		last, all := impl.DoAll(first, calls)
		if !hubAlike(last, h) || !slices.EqualFunc(all, answers, answerAlike) {
			t.Fatalf("DoAll of %v: %v, not %v", calls, last, h)
		}
	}
	hasCodes(t, codes, impl.OtOk, impl.OtInvalid, impl.OtFuture, impl.OtOld, impl.OtSeq, impl.OtNoDoc, impl.OtHave, impl.OtNoSub, impl.OtEvicted, impl.OtFull, impl.OtClosed)
}

// randomCall returns a call that h often executes.
func randomCall(r *rand.Rand, h impl.Hub) impl.Call {
	name := []string{"a", "b", "c", "d", "e", "f"}[r.Intn(6)]
	if len(h.Docs) > 0 && r.Intn(3) > 0 {
		name = h.Docs[r.Intn(len(h.Docs))].Name
	}
	var d impl.Doc
	if at := docIndex(h, name); at >= 0 {
		d = h.Docs[at]
	}
	switch r.Intn(12) {
	case 0:
		return impl.Call{Kind: impl.ClOpen, Doc: name, Text: randomText(r, r.Intn(20))}
	case 1, 2:
		return impl.Call{Kind: impl.ClFetch, Doc: name, N: d.From - 1 + r.Intn(len(d.List)+3)}
	case 3:
		return impl.Call{Kind: impl.ClSnap, Doc: name}
	case 4:
		return impl.Call{Kind: impl.ClSub, Doc: name, N: r.Intn(8)}
	case 5, 6:
		return impl.Call{Kind: impl.ClPoll, Client: h.Last - r.Intn(8), N: r.Intn(8)}
	case 7:
		return impl.Call{Kind: impl.ClResync, Client: h.Last - r.Intn(8)}
	case 8:
		if r.Intn(20) == 0 {
			return impl.Call{Kind: impl.ClShut, N: r.Intn(2)}
		}
	}
	client := 1 + r.Intn(3)
	seq := nextSeq(d, client) + []int{0, 0, 0, 0, 0, 0, -1, 1}[r.Intn(8)]
	base := max(d.From, headOf(d)-max(0, r.Intn(12)-8))
	o := mildOpOn(r, len(stepText(impl.Doc{Text: d.Text, List: d.List[:base-d.From]})))
	return impl.Call{Kind: impl.ClSubmit, Doc: name, Client: client, Seq: seq, N: base, O: o}
}
