package tests

import (
	"math"
	"math/rand"
	"slices"
	"strings"
	"testing"

	"loop.example/g00797/impl"
)

// named returns a copy of d with another name.
func named(d impl.Doc, name string) impl.Doc {
	d = copiedDoc(d)
	d.Name = name
	return d
}

func headOf(d impl.Doc) int {
	return d.From + len(d.List)
}

// watcher is a consistent subscriber of d with n waiting entries.
func watcher(id int, d impl.Doc, room int, n int) impl.Sub {
	return impl.Sub{Id: id, Doc: d.Name, R: impl.Ring{Cap: room, Next: headOf(d) + 1 - n, List: waiting(n)}}
}

// evictee is a subscriber of d that is out.
func evictee(id int, d impl.Doc, room int, next int) impl.Sub {
	return impl.Sub{Id: id, Doc: d.Name, R: impl.Ring{Cap: room, Next: next, Out: true}}
}

// hubDocs are as many documents as a hub can have, with the revisions 2, 9,
// 508, 0 and the last one.
func hubDocs() []impl.Doc {
	two := impl.Doc{Name: "a", Text: letters(2), List: entries(op(keep(2), put(65)), op(put(66), keep(3))), Seen: []impl.Seen{{Client: 1, Seq: 10, Rev: 1}, {Client: 2, Seq: 11, Rev: 2}}}
	last := impl.Doc{Name: "zzzzzzzz", From: lastFrom, List: slices.Repeat(entries(op()), 8), Seen: allSeen(lastFrom)}
	return []impl.Doc{two, chainDoc().d, fullDoc(500).d, {Name: "b"}, last}
}

// baseHub has room for more documents and subscribers. Of the subscribers of
// abc, one has nothing to read, one has a full ring, and one is out.
func baseHub() impl.Hub {
	docs := hubDocs()[:3]
	return impl.Hub{Docs: docs, Last: 11, Subs: []impl.Sub{
		watcher(2, docs[1], 2, 0), watcher(3, docs[0], 3, 1), watcher(5, docs[1], 3, 3), evictee(6, docs[1], 4, 7), watcher(9, docs[2], 6, 6),
	}}
}

// fullHub has as many documents and subscribers as a hub can have.
func fullHub() impl.Hub {
	docs := hubDocs()
	return impl.Hub{Docs: docs, Last: 6, Subs: []impl.Sub{
		watcher(1, docs[4], 6, 6), watcher(2, docs[3], 1, 0), watcher(3, docs[2], 1, 1), watcher(4, docs[4], 1, 0), evictee(5, docs[0], 6, impl.MaxNum), watcher(6, docs[1], 5, 4),
	}}
}

// hubCases are valid hubs, each of them open and shut.
func hubCases() []impl.Hub {
	l := []impl.Hub{{}, {Last: 1}, {Last: impl.MaxNum}, baseHub(), fullHub()}
	docs, subs := hubDocs(), fullHub().Subs
	for n := 1; n <= impl.MaxDocs; n++ {
		l = append(l, impl.Hub{Docs: docs[:n]}, impl.Hub{Docs: docs[5-n:], Last: n}, impl.Hub{Docs: docs[n-1 : n], Last: 8, Subs: []impl.Sub{evictee(8, docs[n-1], n, 1), watcher(8, docs[n-1], 6, 0)}[n%2:][:1]})
	}
	for n := 1; n <= impl.MaxSubs; n++ {
		l = append(l, impl.Hub{Docs: docs, Subs: subs[:n], Last: n}, impl.Hub{Docs: docs, Subs: subs[6-n:], Last: impl.MaxNum})
	}
	r := rand.New(rand.NewSource(61))
	for range 40 {
		l = append(l, randomHub(r))
	}
	for _, h := range slices.Clone(l) {
		h.Shut = true
		l = append(l, h)
	}
	return l
}

// randomHub returns a valid hub.
func randomHub(r *rand.Rand) impl.Hub {
	docs := map[string]impl.Doc{}
	for range r.Intn(impl.MaxDocs + 1) {
		d := randomDoc(r).d
		docs[d.Name] = d
	}
	h := impl.Hub{Last: r.Intn(3)}
	for _, d := range docs {
		h.Docs = append(h.Docs, d)
	}
	slices.SortFunc(h.Docs, func(a impl.Doc, b impl.Doc) int { return strings.Compare(a.Name, b.Name) })
	for range r.Intn(impl.MaxSubs + 1) {
		if len(h.Docs) == 0 {
			break
		}
		h.Last += 1 + r.Intn(3)
		d, room := h.Docs[r.Intn(len(h.Docs))], 1+r.Intn(impl.MaxCap)
		s := watcher(h.Last, d, room, r.Intn(min(room, headOf(d))+1))
		if r.Intn(4) == 0 {
			s = evictee(h.Last, d, room, 1+r.Intn(100))
		}
		h.Subs = append(h.Subs, s)
	}
	h.Last += r.Intn(2)
	return h
}

// copiedHub returns a deep copy, which may be changed at will.
func copiedHub(h impl.Hub) impl.Hub {
	h.Docs, h.Subs = slices.Clone(h.Docs), slices.Clone(h.Subs)
	for i, d := range h.Docs {
		h.Docs[i] = copiedDoc(d)
	}
	for i, s := range h.Subs {
		h.Subs[i].R = copiedRing(s.R)
	}
	return h
}

// subAlike and hubAlike compare without the program.
func subAlike(a impl.Sub, b impl.Sub) bool {
	return a.Id == b.Id && a.Doc == b.Doc && ringAlike(a.R, b.R)
}

func hubAlike(a impl.Hub, b impl.Hub) bool {
	return a.Shut == b.Shut && slices.EqualFunc(a.Docs, b.Docs, docAlike) && slices.EqualFunc(a.Subs, b.Subs, subAlike) && a.Last == b.Last
}

// docIndex and subIndex search without the program.
func docIndex(h impl.Hub, name string) int {
	for i, d := range h.Docs {
		if d.Name == name {
			return i
		}
	}
	return -1
}

func subIndex(h impl.Hub, id int) int {
	for i, s := range h.Subs {
		if s.Id == id {
			return i
		}
	}
	return -1
}

// soundHub checks a hub without the program, but for OpOk.
func soundHub(h impl.Hub) bool {
	if len(h.Docs) > 5 || len(h.Subs) > 6 || h.Last < 0 || h.Last > 1000000000 {
		return false
	}
	name, id := "", 0
	for _, d := range h.Docs {
		if d.Name <= name || !sound(d) {
			return false
		}
		name = d.Name
	}
	for _, s := range h.Subs {
		at := docIndex(h, s.Doc)
		if s.Id <= id || s.Id > h.Last || at < 0 || !soundRing(s.R) {
			return false
		}
		if !s.R.Out && s.R.Next+len(s.R.List)-1 != headOf(h.Docs[at]) {
			return false
		}
		id = s.Id
	}
	return true
}

// hubCall is a call of one of the six functions that return a hub. Of its
// fields, a function gets only its own ones.
type hubCall struct {
	kind string
	name string
	text []int
	q    request
	id   int
	n    int
}

// hubResult is what a call returns; n is a revision or an Id.
type hubResult struct {
	h    impl.Hub
	n    int
	text []int
	list []impl.Entry
	code int
}

func execute(h impl.Hub, c hubCall) hubResult {
	var r hubResult
	switch c.kind {
	case "open":
		r.h, r.code = impl.HubOpen(h, c.name, c.text)
	case "submit":
		r.h, r.n, r.code = impl.HubSubmit(h, c.name, c.q.client, c.q.seq, c.q.base, c.q.o)
	case "subscribe":
		r.h, r.n, r.code = impl.HubSubscribe(h, c.name, c.n)
	case "poll":
		r.h, r.list, r.code = impl.HubPoll(h, c.id, c.n)
	case "resync":
		r.h, r.text, r.n, r.code = impl.HubResync(h, c.id)
	case "shut":
		r.h, r.code = impl.HubShut(h)
	default:
		panic("there is no call " + c.kind)
	}
	return r
}

func resultAlike(a hubResult, b hubResult) bool {
	return hubAlike(a.h, b.h) && a.n == b.n && slices.Equal(a.text, b.text) && entriesAlike(a.list, b.list) && a.code == b.code
}

// modelCode returns the first code in the document's order, but for those that
// Submit has itself.
func modelCode(h impl.Hub, c hubCall) int {
	kind := func(l ...string) bool { return slices.Contains(l, c.kind) }
	name, sub := docIndex(h, c.name), subIndex(h, c.id)
	switch {
	case !soundHub(h):
		return impl.OtInvalid
	case kind("open") && !sound(impl.Doc{Name: c.name, Text: c.text}):
		return impl.OtInvalid
	case kind("subscribe") && (c.n < 1 || c.n > 6) || kind("poll") && c.n < 1:
		return impl.OtInvalid
	case kind("open", "submit", "subscribe", "shut") && h.Shut:
		return impl.OtClosed
	case kind("open") && name >= 0:
		return impl.OtHave
	case kind("open") && len(h.Docs) == 5:
		return impl.OtFull
	case kind("submit", "subscribe") && name < 0:
		return impl.OtNoDoc
	case kind("subscribe") && (len(h.Subs) == 6 || h.Last == 1000000000):
		return impl.OtFull
	case kind("poll", "resync") && sub < 0:
		return impl.OtNoSub
	case kind("poll") && h.Subs[sub].R.Out:
		return impl.OtEvicted
	}
	return impl.OtOk
}

// modelHub follows the document's words on plain lists.
func modelHub(h impl.Hub, c hubCall) hubResult {
	if code := modelCode(h, c); code != impl.OtOk {
		return hubResult{code: code}
	}
	r := hubResult{h: copiedHub(h)}
	doc, sub := docIndex(h, c.name), subIndex(h, c.id)
	switch c.kind {
	case "open":
		r.h.Docs = append(r.h.Docs, impl.Doc{Name: c.name, Text: slices.Clone(c.text)})
		slices.SortFunc(r.h.Docs, func(a impl.Doc, b impl.Doc) int { return strings.Compare(a.Name, b.Name) })
	case "submit":
		d, rev, code := modelSubmit(h.Docs[doc], c.q)
		if code != impl.OtOk {
			return hubResult{code: code}
		}
		r.h.Docs[doc], r.n = d, rev
		for i, s := range r.h.Subs {
			if s.Doc == c.name && headOf(d) > headOf(h.Docs[doc]) {
				r.h.Subs[i].R = modelPush(s.R, copiedDoc(d).List[len(d.List)-1])
			}
		}
	case "subscribe":
		r.h.Last, r.n = h.Last+1, h.Last+1
		r.h.Subs = append(r.h.Subs, impl.Sub{Id: r.n, Doc: c.name, R: impl.Ring{Cap: c.n, Next: headOf(h.Docs[doc]) + 1}})
	case "poll":
		r.h.Subs[sub].R, r.list, r.code = modelPoll(h.Subs[sub].R, c.n)
	case "resync":
		d := h.Docs[docIndex(h, h.Subs[sub].Doc)]
		r.text, r.n = slices.Clone(d.Text), headOf(d)
		for _, e := range d.List {
			r.text = effect(e.O, r.text)
		}
		r.h.Subs[sub].R = impl.Ring{Cap: h.Subs[sub].R.Cap, Next: r.n + 1}
	case "shut":
		r.h.Shut = true
	}
	return r
}

// checkCall compares a call with the model, and checks what P9 says of it.
func checkCall(t *testing.T, h impl.Hub, c hubCall) hubResult {
	t.Helper()
	want := modelHub(h, c)
	got := execute(h, c)
	if !resultAlike(got, want) {
		t.Fatalf("%v of %v: %v, not %v", c, h, got, want)
	}
	if got.code == impl.OtOk && !impl.HubOk(got.h) {
		t.Fatalf("%v of %v leaves a hub that is not valid: %v", c, h, got)
	}
	if got.code != impl.OtOk && impl.OtName(got.code) == "" {
		t.Fatalf("%v of %v has no reason: %v", c, h, got)
	}
	return got
}

// refuses checks that a call is rejected with this code, that all other results
// are zero values, and that the hub is as it was.
func refuses(t *testing.T, own impl.Hub, c hubCall, code int) {
	t.Helper()
	h, kept := sparedHub(own)
	if got := execute(h, c); !resultAlike(got, hubResult{code: code}) || !kept() {
		t.Errorf("%v of %v: %v, not the code %d", c, own, got, code)
	}
}

func shutHub(h impl.Hub) impl.Hub {
	h.Shut = true
	return h
}

// hubCalls are calls for h, of which about a half is executed.
func hubCalls(r *rand.Rand, h impl.Hub) []hubCall {
	l := []hubCall{
		{kind: "shut"}, {kind: "open", name: "abd", text: letters(3)}, {kind: "open", name: "zz", text: numbered(200)}, {kind: "open", name: "a"},
		{kind: "open", name: randomName(r)}, {kind: "open", name: "", text: letters(1)}, {kind: "open", name: "c", text: []int{-1}},
		{kind: "subscribe", name: "none", n: 1}, {kind: "submit", name: "none", q: request{1, 1, 0, nil}}, {kind: "poll", id: h.Last + 1, n: 1}, {kind: "resync", id: 0},
	}
	for _, d := range h.Docs {
		n := len(stepText(d))
		l = append(l, hubCall{kind: "open", name: d.Name, text: letters(2)})
		for _, room := range []int{0, 1 + r.Intn(6), 6, 7} {
			l = append(l, hubCall{kind: "subscribe", name: d.Name, n: room})
		}
		client := 1 + r.Intn(8)
		seq := nextSeq(d, client)
		for _, q := range []request{
			{client, seq, headOf(d), mildOpOn(r, n)}, {client, seq, headOf(d), op(drop(n), put(97, 98))}, {client, seq, d.From, op(put(99), keep(len(d.Text)))},
			{client, max(1, seq-1), 0, nil}, {client, seq + 1, headOf(d), op(keep(n))}, {client, seq, headOf(d) + 1, op(keep(n))},
			{client, seq, d.From - 1, op(keep(n))}, {client, seq, headOf(d), op(keep(n + 1))}, {client, seq, headOf(d), op(keep(n), keep(-1))},
		} {
			l = append(l, hubCall{kind: "submit", name: d.Name, q: q})
		}
	}
	for _, s := range h.Subs {
		l = append(l, hubCall{kind: "resync", id: s.Id})
		for _, n := range []int{0, 1, 2, 6, 100} {
			l = append(l, hubCall{kind: "poll", id: s.Id, n: n})
		}
	}
	return l
}

// stepText returns the last text of a valid document, without the program.
func stepText(d impl.Doc) []int {
	text := d.Text
	for _, e := range d.List {
		text = effect(e.O, text)
	}
	return text
}

func TestP13HubConstants(t *testing.T) {
	if impl.MaxDocs != 5 || impl.MaxSubs != 6 {
		t.Error("MaxDocs or MaxSubs differs from the document")
	}
}

// changedHubs are copies of baseHub of which each differs in one place.
func changedHubs() []impl.Hub {
	var l []impl.Hub
	with := func(change func(h *impl.Hub)) {
		h := copiedHub(baseHub())
		change(&h)
		l = append(l, h)
	}
	with(func(h *impl.Hub) { h.Shut = true })
	with(func(h *impl.Hub) { h.Docs = nil })
	with(func(h *impl.Hub) { h.Subs = nil })
	with(func(h *impl.Hub) { h.Docs = append(h.Docs, impl.Doc{Name: "b"}) })
	with(func(h *impl.Hub) { h.Docs = append(h.Docs, impl.Doc{}) })
	with(func(h *impl.Hub) { h.Subs = append(h.Subs, watcher(10, h.Docs[0], 1, 0)) })
	with(func(h *impl.Hub) { h.Subs = append(h.Subs, impl.Sub{}) })
	for _, n := range append(farNumbers(), -11, -1, 0, 9, 10, 12, 11+1<<32) {
		with(func(h *impl.Hub) { h.Last = n })
	}
	for at := range 3 {
		with(func(h *impl.Hub) { h.Docs[at].Name += "a" })
		with(func(h *impl.Hub) { h.Docs[at].From++ })
		with(func(h *impl.Hub) { h.Docs[at].Text[0]++ })
		with(func(h *impl.Hub) { h.Docs[at].List[1].Seq++ })
		with(func(h *impl.Hub) { h.Docs[at].Seen[1].Rev-- })
		with(func(h *impl.Hub) { h.Docs = slices.Delete(h.Docs, at, at+1) })
		with(func(h *impl.Hub) { h.Docs = h.Docs[:at] })
		with(func(h *impl.Hub) { h.Docs = slices.Insert(h.Docs, at, h.Docs[at]) })
	}
	for at := range 5 {
		for _, n := range append(farNumbers(), -1, 0, 1, 4, 7, 8, 10, 11, 12, 2+1<<32) {
			with(func(h *impl.Hub) { h.Subs[at].Id = n })
		}
		for _, name := range []string{"", "ab", "abcd", "A", "b"} {
			with(func(h *impl.Hub) { h.Subs[at].Doc = name })
		}
		with(func(h *impl.Hub) { h.Subs[at].R.Cap-- })
		with(func(h *impl.Hub) { h.Subs[at].R.Next++ })
		with(func(h *impl.Hub) { h.Subs[at].R.Next-- })
		with(func(h *impl.Hub) { h.Subs[at].R.Out = !h.Subs[at].R.Out })
		with(func(h *impl.Hub) { h.Subs[at].R.List = append(h.Subs[at].R.List, waiting(1)...) })
		with(func(h *impl.Hub) { h.Subs[at].R = impl.Ring{} })
		with(func(h *impl.Hub) { h.Subs = slices.Delete(h.Subs, at, at+1) })
		with(func(h *impl.Hub) { h.Subs = h.Subs[:at] })
		with(func(h *impl.Hub) { h.Subs = slices.Insert(h.Subs, at, h.Subs[at]) })
	}
	for at := range 2 {
		with(func(h *impl.Hub) { h.Docs[at], h.Docs[at+1] = h.Docs[at+1], h.Docs[at] })
	}
	for at := range 4 {
		with(func(h *impl.Hub) { h.Subs[at], h.Subs[at+1] = h.Subs[at+1], h.Subs[at] })
	}
	with(func(h *impl.Hub) { h.Subs[4].R.List[5].O[0].Signs[0]++ })
	with(func(h *impl.Hub) { h.Subs[4].R.List[2].Client++ })
	return append(l, impl.Hub{})
}

// badHubs have one reason not to be valid, or two that belong together.
func badHubs() []impl.Hub {
	var l []impl.Hub
	for _, h := range changedHubs() {
		if !soundHub(h) {
			l = append(l, h)
		}
	}
	for _, n := range append(farNumbers(), -1, impl.MaxNum+1) {
		l = append(l, impl.Hub{Last: n}, impl.Hub{Docs: hubDocs(), Last: n}, impl.Hub{Docs: hubDocs(), Subs: fullHub().Subs[:1], Last: n})
	}
	for _, name := range []string{"ab", "az", "c"} {
		docs := hubDocs()
		at := 0
		for at < 5 && docs[at].Name < name {
			at++
		}
		l = append(l, impl.Hub{Docs: slices.Insert(docs, at, impl.Doc{Name: name})})
	}
	many := fullHub()
	many.Subs, many.Last = append(many.Subs, watcher(7, many.Docs[0], 1, 0)), 7
	l = append(l, many, impl.Hub{Subs: fullHub().Subs[:1], Last: 1}, impl.Hub{Docs: hubDocs()[:4], Subs: fullHub().Subs[:1], Last: 1})
	many.Subs, many.Last = nil, 500
	for id := 1; id <= 500; id++ {
		many.Subs = append(many.Subs, watcher(id, many.Docs[0], 1, 0))
	}
	return append(l, many)
}

func TestP13HubOk(t *testing.T) {
	for _, h := range hubCases() {
		if !impl.HubOk(h) || !soundHub(h) {
			t.Errorf("HubOk(%v) is %v", h, impl.HubOk(h))
		}
	}
	for _, h := range badHubs() {
		if impl.HubOk(h) || impl.HubOk(shutHub(h)) || soundHub(h) {
			t.Errorf("HubOk(%v) is %v", h, impl.HubOk(h))
		}
	}
	for _, h := range changedHubs() {
		if impl.HubOk(h) != soundHub(h) {
			t.Errorf("HubOk(%v) is %v", h, impl.HubOk(h))
		}
	}
}

func TestP13HubOkCounts(t *testing.T) {
	names := []string{"a", "b", "ba", "bb", "c", "ca", "d", "e"}
	for docs := range len(names) + 1 {
		for subs := range 10 {
			h := impl.Hub{Last: subs}
			for _, name := range names[:docs] {
				h.Docs = append(h.Docs, impl.Doc{Name: name, From: 4})
			}
			for id := 1; id <= subs; id++ {
				h.Subs = append(h.Subs, watcher(id, impl.Doc{Name: names[id%max(1, docs)], From: 4}, 2, id%3))
			}
			want := docs <= 5 && subs <= 6 && (docs > 0 || subs == 0)
			if impl.HubOk(h) != want {
				t.Errorf("HubOk(%v) is %v", h, !want)
			}
		}
	}
}

// TestP13HubOkNames: the names ascend, byte by byte and without duplicates.
func TestP13HubOkNames(t *testing.T) {
	l := []string{"a", "aa", "ab", "abcdefgh", "az", "b", "ba", "z", "zz", "zzzzzzzz"}
	for i, a := range l {
		for j, b := range l {
			for k, c := range l {
				h := impl.Hub{Docs: []impl.Doc{{Name: a}, {Name: b}, {Name: c}}}
				if want := i < j && j < k; impl.HubOk(h) != want {
					t.Errorf("HubOk of %q, %q, %q is %v", a, b, c, !want)
				}
			}
		}
	}
	for _, c := range plainDocs() {
		if h := (impl.Hub{Docs: []impl.Doc{c.d, c.d}}); impl.HubOk(h) {
			t.Errorf("HubOk of %v, twice, is true", c.d)
		}
	}
}

// TestP13HubOkIds: the Ids ascend from 1 to Last, without duplicates.
func TestP13HubOkIds(t *testing.T) {
	d := impl.Doc{Name: "a", From: 3}
	numbers := append(farNumbers(), -2, -1, 0, 1, 2, 3, 4, 5, impl.MaxNum-1, impl.MaxNum, impl.MaxNum+1)
	for _, last := range numbers {
		fits := last >= 0 && last <= 1000000000
		if h := (impl.Hub{Last: last}); impl.HubOk(h) != fits {
			t.Errorf("HubOk(%v) is %v", h, !fits)
		}
		for _, a := range numbers {
			h := impl.Hub{Docs: []impl.Doc{d}, Subs: []impl.Sub{watcher(a, d, 2, 1)}, Last: last}
			if want := fits && a >= 1 && a <= last; impl.HubOk(h) != want {
				t.Errorf("HubOk(%v) is %v", h, !want)
			}
			for _, b := range numbers {
				h.Subs = []impl.Sub{watcher(a, d, 2, 1), watcher(b, d, 2, 0)}
				if want := fits && a >= 1 && a < b && b <= last; impl.HubOk(h) != want {
					t.Errorf("HubOk(%v) is %v", h, !want)
				}
			}
		}
	}
}

// TestP13HubOkConsistent: Next and the waiting entries lead to the revision of
// the document, unless the subscriber is out.
func TestP13HubOkConsistent(t *testing.T) {
	docs := []impl.Doc{{Name: "a"}, {Name: "b", From: 1}, chainDoc().d, {Name: "c", From: 5, List: entries(nil, nil)}, fullDoc(500).d, {Name: "z", From: lastFrom}}
	slices.SortFunc(docs, func(a impl.Doc, b impl.Doc) int { return strings.Compare(a.Name, b.Name) })
	for _, d := range docs {
		for other := range docs {
			for n := range impl.MaxCap + 1 {
				for off := -9; off <= 9; off++ {
					h := impl.Hub{Docs: slices.Delete(slices.Clone(docs), other, other+1), Last: 1, Subs: []impl.Sub{watcher(1, d, 6, n)}}
					h.Subs[0].R.Next += off
					next := h.Subs[0].R.Next
					there := docs[other].Name != d.Name
					want := there && off == 0 && next >= 1
					if impl.HubOk(h) != want {
						t.Fatalf("HubOk(%v) is %v", h, !want)
					}
					h.Subs[0].R.Out = true
					want = there && n == 0 && next >= 1
					if impl.HubOk(h) != want {
						t.Fatalf("HubOk(%v) is %v", h, !want)
					}
				}
			}
		}
	}
}

// TestP13HubOkOfBadDocs puts each of them in the place of its name, without
// subscribers that would no longer be consistent.
func TestP13HubOkOfBadDocs(t *testing.T) {
	for _, d := range badDocs() {
		h := impl.Hub{Docs: hubDocs()}
		at := max(0, docIndex(h, d.Name))
		h.Docs[at] = d
		for _, bad := range []impl.Hub{h, {Docs: []impl.Doc{d}}} {
			if impl.HubOk(bad) {
				t.Errorf("HubOk(%v) is true", bad)
			}
		}
	}
}

// TestP13HubOkOfBadRings has rings that would be consistent.
func TestP13HubOkOfBadRings(t *testing.T) {
	for i, r := range badRings() {
		bad := copiedHub(baseHub())
		s := &bad.Subs[i%5]
		s.R = r
		if impl.HubOk(bad) {
			t.Errorf("HubOk(%v) is true", bad)
		}
		s.R.Next = headOf(bad.Docs[docIndex(bad, s.Doc)]) + 1 - len(r.List)
		if impl.HubOk(bad) != soundRing(s.R) {
			t.Errorf("HubOk(%v) is %v", bad, impl.HubOk(bad))
		}
	}
	d := impl.Doc{Name: "a"}
	h := impl.Hub{Docs: []impl.Doc{d}, Subs: []impl.Sub{watcher(1, d, 2, 1)}, Last: 1}
	if impl.HubOk(h) {
		t.Errorf("HubOk(%v) is true: Next is 0", h)
	}
}

func TestP13HubDoc(t *testing.T) {
	names := []string{"", "a", "b", "ab", "abc", "abcdefgz", "abcdefg", "zzzzzzzz", "A", "none", "zzzzzzzzz"}
	for _, h := range slices.Concat(hubCases(), badHubs(), changedHubs()) {
		for _, name := range names {
			if got, want := impl.HubDoc(h, name), docIndex(h, name); got != want {
				t.Errorf("HubDoc(%v, %q): %d, not %d", h, name, got, want)
			}
		}
		for i, d := range h.Docs {
			if got := impl.HubDoc(h, d.Name); got != docIndex(h, d.Name) || soundHub(h) && got != i {
				t.Errorf("HubDoc(%v, %q): %d", h, d.Name, got)
			}
		}
	}
	h := impl.Hub{Docs: []impl.Doc{{Name: "b"}, {Name: "a"}, {Name: "b"}, {Name: ""}, {Name: "a"}, {Name: "a b\xff"}, {Name: "zzz"}, {Name: ""}, {Name: "zzz"}}}
	for name, want := range map[string]int{"b": 0, "a": 1, "": 3, "a b\xff": 5, "zzz": 6, "c": -1, "a b": -1, "zz": -1, "zzzz": -1} {
		if got := impl.HubDoc(h, name); got != want {
			t.Errorf("HubDoc(%v, %q): %d, not %d", h, name, got, want)
		}
	}
}

func TestP13HubSub(t *testing.T) {
	for _, h := range slices.Concat(hubCases(), badHubs(), changedHubs()) {
		for _, id := range append(farNumbers(), -1, 0, 1, 2, 3, 4, 5, 6, 7, 8, 9, 10, 11, 12, impl.MaxNum) {
			if got, want := impl.HubSub(h, id), subIndex(h, id); got != want {
				t.Errorf("HubSub(%v, %d): %d, not %d", h, id, got, want)
			}
		}
	}
	var h impl.Hub
	for _, id := range []int{5, 2, 5, 0, -3, 2, 0, math.MaxInt, math.MinInt, math.MaxInt, 9} {
		h.Subs = append(h.Subs, impl.Sub{Id: id})
	}
	for id, want := range map[int]int{5: 0, 2: 1, 0: 3, -3: 4, math.MaxInt: 7, math.MinInt: 8, 9: 10, 1: -1, 3: -1, -5: -1, 5 + 1<<32: -1} {
		if got := impl.HubSub(h, id); got != want {
			t.Errorf("HubSub(%v, %d): %d, not %d", h, id, got, want)
		}
	}
}

// TestP9Calls compares all calls with the model.
func TestP9Calls(t *testing.T) {
	r := rand.New(rand.NewSource(62))
	codes := map[int]int{}
	for _, h := range hubCases() {
		for _, c := range hubCalls(r, h) {
			codes[checkCall(t, h, c).code]++
		}
	}
	hasCodes(t, codes, impl.OtOk, impl.OtInvalid, impl.OtFuture, impl.OtOld, impl.OtSeq, impl.OtLarge, impl.OtNoDoc, impl.OtHave, impl.OtNoSub, impl.OtEvicted, impl.OtFull, impl.OtClosed)
}

// TestP9CallsOnBadHubs: they are refused, whatever else is asked.
func TestP9CallsOnBadHubs(t *testing.T) {
	r := rand.New(rand.NewSource(63))
	for i, h := range badHubs() {
		small := h
		small.Docs, small.Subs = h.Docs[:min(3, len(h.Docs))], h.Subs[:min(3, len(h.Subs))]
		for j, c := range hubCalls(r, small) {
			switch (i + j) % 8 {
			case 0:
				refuses(t, h, c, impl.OtInvalid)
			case 1:
				refuses(t, shutHub(h), c, impl.OtInvalid)
			}
		}
	}
	for _, c := range hubCalls(r, baseHub()) {
		h := copiedHub(baseHub())
		h.Docs[0].List[0].O = op(keep(-1))
		refuses(t, h, c, impl.OtInvalid)
		h = copiedHub(baseHub())
		h.Subs[4].R.List[3] = impl.Entry{}
		refuses(t, h, c, impl.OtInvalid)
	}
}

// codeCase is a call with the code that it has in some hub.
type codeCase struct {
	h    impl.Hub
	c    hubCall
	code int
}

func (c codeCase) check(t *testing.T) {
	t.Helper()
	if c.code == impl.OtOk {
		if got := checkCall(t, c.h, c.c); got.code != impl.OtOk {
			t.Errorf("%v of %v: %v", c.c, c.h, got)
		}
		return
	}
	refuses(t, c.h, c.c, c.code)
}

// TestP9OpenCodes has each code alone, and the first one where several apply.
func TestP9OpenCodes(t *testing.T) {
	base, full := baseHub(), fullHub()
	bad := copiedHub(base)
	bad.Last = 8
	text, signs := letters(3), append(letters(3), 0xd800)
	open := func(name string, text []int) hubCall { return hubCall{kind: "open", name: name, text: text} }
	cases := []codeCase{
		{base, open("abd", text), impl.OtOk}, {base, open("abd", nil), impl.OtOk}, {base, open("zzzzzzzz", numbered(200)), impl.OtOk}, {impl.Hub{}, open("a", text), impl.OtOk},
		{bad, open("abd", text), impl.OtInvalid}, {base, open("abD", text), impl.OtInvalid}, {base, open("", text), impl.OtInvalid}, {base, open("abdefghij", text), impl.OtInvalid},
		{base, open("abd", signs), impl.OtInvalid}, {base, open("abd", letters(201)), impl.OtInvalid},
		{shutHub(base), open("abd", text), impl.OtClosed}, {base, open("a", text), impl.OtHave}, {base, open("abc", text), impl.OtHave}, {base, open("abcdefgz", nil), impl.OtHave},
		{full, open("abd", text), impl.OtFull}, {impl.Hub{Docs: full.Docs, Last: 3}, open("c", text), impl.OtFull}, {impl.Hub{Docs: full.Docs[1:]}, open("a", text), impl.OtOk},
		// Several at once.
		{shutHub(bad), open("a", text), impl.OtInvalid}, {shutHub(base), open("a b", text), impl.OtInvalid}, {shutHub(base), open("a", signs), impl.OtInvalid},
		{base, open("a", signs), impl.OtInvalid}, {full, open("", text), impl.OtInvalid}, {full, open("a", letters(201)), impl.OtInvalid}, {full, open("abd", signs), impl.OtInvalid},
		{shutHub(base), open("a", text), impl.OtClosed}, {shutHub(full), open("a", text), impl.OtClosed}, {shutHub(full), open("abd", text), impl.OtClosed},
		{full, open("a", text), impl.OtHave}, {full, open("zzzzzzzz", text), impl.OtHave}, {bad, open("a", text), impl.OtInvalid}, {bad, open("a b", text), impl.OtInvalid},
	}
	for _, c := range cases {
		c.check(t)
	}
	for _, name := range badName() {
		refuses(t, base, open(name.Name, text), impl.OtInvalid)
	}
	for _, text := range badTexts() {
		refuses(t, base, open("abd", text), impl.OtInvalid)
		refuses(t, shutHub(full), open("a", text), impl.OtInvalid)
	}
}

// TestP9SubmitCodes is about the hub's codes and those of Submit together.
func TestP9SubmitCodes(t *testing.T) {
	base, full := baseHub(), fullHub()
	bad := copiedHub(base)
	bad.Subs[2].Doc = "abd"
	fits, misfits, wrong := op(keep(3)), op(keep(4)), op(keep(3), impl.Part{})
	send := func(name string, client int, seq int, base int, o []impl.Part) hubCall {
		return hubCall{kind: "submit", name: name, q: request{client, seq, base, o}}
	}
	cases := []codeCase{
		{base, send("abc", 2, 1, 9, fits), impl.OtOk}, {base, send("abc", 3, 12, 99, nil), impl.OtOk}, {full, send("abc", 2, 1, 5, op(put(97), keep(3))), impl.OtOk},
		{bad, send("abc", 2, 1, 9, fits), impl.OtInvalid}, {shutHub(base), send("abc", 2, 1, 9, fits), impl.OtClosed}, {base, send("abd", 2, 1, 9, fits), impl.OtNoDoc},
		{base, send("ab", 2, 1, 9, fits), impl.OtNoDoc}, {base, send("", 2, 1, 9, fits), impl.OtNoDoc}, {base, send("abcdefghijk", 2, 1, 9, fits), impl.OtNoDoc}, {impl.Hub{}, send("a", 1, 1, 0, nil), impl.OtNoDoc},
		{base, send("abc", 0, 1, 9, fits), impl.OtInvalid}, {base, send("abc", 9, 1, 9, fits), impl.OtInvalid}, {base, send("abc", 2, 0, 9, fits), impl.OtInvalid},
		{base, send("abc", 2, impl.MaxNum+1, 9, fits), impl.OtInvalid}, {base, send("abc", 2, 1, 9, wrong), impl.OtInvalid}, {base, send("abc", 2, 1, 9, misfits), impl.OtInvalid},
		{base, send("abc", 2, 2, 9, fits), impl.OtSeq}, {base, send("abc", 2, 1, 10, fits), impl.OtFuture}, {base, send("abc", 2, 1, 4, fits), impl.OtOld},
		{full, send("zzzzzzzz", 8, 93, lastFrom+8, op()), impl.OtLarge}, {full, send("zzzzzzzz", 8, 92, lastFrom+9, op()), impl.OtOk},
		// Several at once: the hub's codes come first, as listed.
		{shutHub(bad), send("abd", 0, 1, 9, fits), impl.OtInvalid}, {bad, send("none", 2, 1, 9, fits), impl.OtInvalid}, {shutHub(base), send("abd", 2, 1, 9, fits), impl.OtClosed},
		{shutHub(base), send("abc", 0, 1, 9, wrong), impl.OtClosed}, {shutHub(base), send("abc", 2, 2, 10, fits), impl.OtClosed}, {shutHub(base), send("abc", 3, 12, 9, nil), impl.OtClosed},
		{base, send("abd", 0, 1, 9, wrong), impl.OtNoDoc}, {base, send("abd", 2, 0, 10, wrong), impl.OtNoDoc}, {shutHub(base), send("abd", 0, 0, 0, wrong), impl.OtClosed},
		{base, send("abc", 2, 2, 10, wrong), impl.OtInvalid}, {base, send("abc", 2, 2, 10, misfits), impl.OtSeq}, {base, send("abc", 2, 1, 10, misfits), impl.OtFuture},
		{full, send("zzzzzzzz", 8, 93, lastFrom+9, op()), impl.OtFuture}, {full, send("zzzzzzzz", 8, 94, lastFrom+8, op()), impl.OtSeq},
	}
	for _, c := range cases {
		c.check(t)
	}
}

func TestP9SubscribeCodes(t *testing.T) {
	base, full := baseHub(), fullHub()
	bad := copiedHub(base)
	bad.Docs[2].From = -1
	late := copiedHub(base)
	late.Last = impl.MaxNum
	almost := copiedHub(base)
	almost.Last = impl.MaxNum - 1
	join := func(name string, room int) hubCall { return hubCall{kind: "subscribe", name: name, n: room} }
	cases := []codeCase{
		{base, join("a", 1), impl.OtOk}, {base, join("abc", 6), impl.OtOk}, {almost, join("abcdefgz", 3), impl.OtOk}, {impl.Hub{Docs: full.Docs}, join("zzzzzzzz", 6), impl.OtOk},
		{bad, join("a", 1), impl.OtInvalid}, {base, join("a", 0), impl.OtInvalid}, {base, join("a", 7), impl.OtInvalid}, {base, join("a", -1), impl.OtInvalid},
		{base, join("a", math.MinInt), impl.OtInvalid}, {base, join("a", math.MaxInt), impl.OtInvalid}, {base, join("a", 1+1<<32), impl.OtInvalid},
		{shutHub(base), join("a", 1), impl.OtClosed}, {base, join("ab", 1), impl.OtNoDoc}, {base, join("", 1), impl.OtNoDoc}, {impl.Hub{}, join("a", 1), impl.OtNoDoc}, {base, join("A", 1), impl.OtNoDoc},
		{full, join("a", 1), impl.OtFull}, {late, join("a", 1), impl.OtFull}, {impl.Hub{Docs: full.Docs, Last: impl.MaxNum}, join("a", 6), impl.OtFull},
		// Several at once.
		{shutHub(bad), join("b", 1), impl.OtInvalid}, {shutHub(base), join("a", 0), impl.OtInvalid}, {shutHub(full), join("none", 7), impl.OtInvalid}, {base, join("none", 0), impl.OtInvalid},
		{full, join("a", 7), impl.OtInvalid}, {late, join("a", 0), impl.OtInvalid}, {bad, join("none", 7), impl.OtInvalid},
		{shutHub(base), join("none", 1), impl.OtClosed}, {shutHub(full), join("a", 1), impl.OtClosed}, {shutHub(late), join("none", 6), impl.OtClosed},
		{full, join("none", 1), impl.OtNoDoc}, {late, join("none", 6), impl.OtNoDoc},
	}
	for _, c := range cases {
		c.check(t)
	}
}

// TestP9PollAndResyncCodes: both are executed in a hub that is shut, too.
func TestP9PollAndResyncCodes(t *testing.T) {
	bad := copiedHub(baseHub())
	bad.Subs[0].R.Next++
	poll := func(id int, n int) hubCall { return hubCall{kind: "poll", id: id, n: n} }
	resync := func(id int) hubCall { return hubCall{kind: "resync", id: id} }
	for _, shut := range []bool{false, true} {
		base := baseHub()
		base.Shut, bad.Shut = shut, shut
		cases := []codeCase{
			{base, poll(2, 1), impl.OtOk}, {base, poll(3, 1), impl.OtOk}, {base, poll(5, 3), impl.OtOk}, {base, poll(9, math.MaxInt), impl.OtOk},
			{bad, poll(9, 1), impl.OtInvalid}, {base, poll(9, 0), impl.OtInvalid}, {base, poll(9, -1), impl.OtInvalid}, {base, poll(9, math.MinInt), impl.OtInvalid},
			{base, poll(6, 1), impl.OtEvicted}, {base, poll(6, 100), impl.OtEvicted},
			{bad, poll(77, 1), impl.OtInvalid}, {bad, poll(6, 1), impl.OtInvalid}, {bad, poll(6, 0), impl.OtInvalid}, {base, poll(77, 0), impl.OtInvalid}, {base, poll(6, 0), impl.OtInvalid}, {base, poll(6, -5), impl.OtInvalid},
			{base, resync(2), impl.OtOk}, {base, resync(5), impl.OtOk}, {base, resync(6), impl.OtOk}, {base, resync(9), impl.OtOk},
			{bad, resync(9), impl.OtInvalid}, {bad, resync(77), impl.OtInvalid}, {bad, resync(6), impl.OtInvalid},
		}
		for _, c := range cases {
			c.check(t)
		}
		for _, id := range append(farNumbers(), -2, 0, 1, 4, 7, 8, 10, 11, 12, impl.MaxNum, 2+1<<32) {
			refuses(t, base, poll(id, 1), impl.OtNoSub)
			refuses(t, base, resync(id), impl.OtNoSub)
			refuses(t, impl.Hub{Shut: shut, Last: 5}, poll(id, 1), impl.OtNoSub)
			refuses(t, impl.Hub{Shut: shut}, resync(id), impl.OtNoSub)
		}
	}
}

// TestP9Shut: a hub is shut once, keeps all it has, and can be read then.
func TestP9Shut(t *testing.T) {
	for _, own := range hubCases() {
		h := own
		h.Shut = false
		s, code := impl.HubShut(h)
		if code != impl.OtOk || !hubAlike(s, shutHub(h)) || !impl.HubOk(s) {
			t.Errorf("HubShut(%v): %v %d", h, s, code)
		}
		refuses(t, s, hubCall{kind: "shut"}, impl.OtClosed)
		if len(s.Docs) > 0 {
			refuses(t, s, hubCall{kind: "subscribe", name: s.Docs[0].Name, n: 1}, impl.OtClosed)
			refuses(t, s, hubCall{kind: "submit", name: s.Docs[0].Name, q: request{1, 1, 0, nil}}, impl.OtClosed)
		}
		refuses(t, s, hubCall{kind: "open", name: "nothere"}, impl.OtClosed)
		for _, sub := range s.Subs {
			open, shut := execute(h, hubCall{kind: "poll", id: sub.Id, n: 2}), execute(s, hubCall{kind: "poll", id: sub.Id, n: 2})
			anew, shutAnew := execute(h, hubCall{kind: "resync", id: sub.Id}), execute(s, hubCall{kind: "resync", id: sub.Id})
			if open.code == impl.OtOk {
				open.h.Shut = true
			}
			anew.h.Shut = true
			if !resultAlike(open, shut) || !resultAlike(anew, shutAnew) || anew.code != impl.OtOk {
				t.Errorf("the subscriber %d of %v reads %v, %v when it is shut", sub.Id, h, shut, shutAnew)
			}
		}
	}
	for _, h := range badHubs() {
		refuses(t, h, hubCall{kind: "shut"}, impl.OtInvalid)
		refuses(t, shutHub(h), hubCall{kind: "shut"}, impl.OtInvalid)
	}
}

func orders(l []string) [][]string {
	if len(l) == 0 {
		return [][]string{nil}
	}
	var all [][]string
	for i, first := range l {
		for _, rest := range orders(slices.Delete(slices.Clone(l), i, i+1)) {
			all = append(all, append([]string{first}, rest...))
		}
	}
	return all
}

// TestP13OpenInEveryOrder: a document comes in front of, between or behind the
// others, as its name says.
func TestP13OpenInEveryOrder(t *testing.T) {
	names := []string{"a", "ab", "abz", "b", "zzzzzzzz"}
	for _, order := range orders(names) {
		h := impl.Hub{Last: 7}
		for _, name := range order {
			h = checkCall(t, h, hubCall{kind: "open", name: name, text: letters(len(name))}).h
		}
		want := impl.Hub{Last: 7}
		for _, name := range names {
			want.Docs = append(want.Docs, impl.Doc{Name: name, Text: letters(len(name))})
		}
		if !hubAlike(h, want) {
			t.Errorf("opened as %v: %v", order, h)
		}
	}
}

func TestP13OpenWrittenOut(t *testing.T) {
	base := baseHub()
	for name, at := range map[string]int{"aa": 1, "aaaaaaaa": 1, "abb": 1, "abca": 2, "abcdefg": 2, "abcdefgy": 2, "abcdefh": 3, "abd": 3, "b": 3, "z": 3} {
		h, code := impl.HubOpen(base, name, []int{65, 0})
		want := copiedHub(base)
		want.Docs = slices.Insert(want.Docs, at, impl.Doc{Name: name, Text: []int{65, 0}})
		if code != impl.OtOk || !hubAlike(h, want) || !impl.HubOk(h) || impl.HubDoc(h, name) != at {
			t.Errorf("HubOpen of %q: %v %d", name, h, code)
		}
	}
	h, code := impl.HubOpen(impl.Hub{Docs: base.Docs[1:]}, "a", nil)
	if code != impl.OtOk || !hubAlike(h, impl.Hub{Docs: []impl.Doc{{Name: "a"}, base.Docs[1], base.Docs[2]}}) {
		t.Errorf("HubOpen of the first name: %v %d", h, code)
	}
}

// TestP13Subscribe: the Ids are never used again, and the ring starts behind
// the last revision.
func TestP13Subscribe(t *testing.T) {
	base := baseHub()
	for i, d := range base.Docs {
		for room := -2; room <= 9; room++ {
			h, id, code := impl.HubSubscribe(base, d.Name, room)
			if room < 1 || room > 6 {
				refuses(t, base, hubCall{kind: "subscribe", name: d.Name, n: room}, impl.OtInvalid)
				continue
			}
			want := copiedHub(base)
			want.Subs = append(want.Subs, impl.Sub{Id: 12, Doc: d.Name, R: impl.Ring{Cap: room, Next: []int{3, 10, 509}[i]}})
			want.Last = 12
			if code != impl.OtOk || id != 12 || !hubAlike(h, want) || !impl.HubOk(h) {
				t.Errorf("HubSubscribe to %q: %v %d %d", d.Name, h, id, code)
			}
		}
	}
	h := impl.Hub{Docs: hubDocs()}
	for n := 1; n <= impl.MaxSubs; n++ {
		got := checkCall(t, h, hubCall{kind: "subscribe", name: h.Docs[n%5].Name, n: n})
		if got.code != impl.OtOk || got.n != n || got.h.Last != n || len(got.h.Subs) != n {
			t.Errorf("the subscriber %d: %v", n, got)
		}
		h = got.h
	}
	refuses(t, h, hubCall{kind: "subscribe", name: "a", n: 1}, impl.OtFull)
	h = impl.Hub{Docs: hubDocs(), Last: impl.MaxNum - 1}
	got := checkCall(t, h, hubCall{kind: "subscribe", name: "a", n: 6})
	if got.code != impl.OtOk || got.n != impl.MaxNum || got.h.Last != impl.MaxNum {
		t.Errorf("the last subscriber: %v", got)
	}
	refuses(t, got.h, hubCall{kind: "subscribe", name: "a", n: 1}, impl.OtFull)
}

// TestP8SubmitTellsTheSubscribers: those of the document get the entry, in
// their places; a full ring goes out, and one that is out stays so.
func TestP8SubmitTellsTheSubscribers(t *testing.T) {
	base := baseHub()
	e := impl.Entry{Client: 2, Seq: 1, O: op(put(65), keep(3))}
	h, rev, code := impl.HubSubmit(base, "abc", e.Client, e.Seq, 9, e.O)
	want := copiedHub(base)
	want.Docs[1].List = append(want.Docs[1].List, e)
	want.Docs[1].Seen = slices.Insert(want.Docs[1].Seen, 1, impl.Seen{Client: 2, Seq: 1, Rev: 10})
	want.Subs[0].R.List = []impl.Entry{e}
	want.Subs[2].R = impl.Ring{Cap: 3, Next: 7, Out: true}
	if code != impl.OtOk || rev != 10 || !hubAlike(h, want) || !impl.HubOk(h) {
		t.Errorf("HubSubmit to abc: %v %d %d, not %v", h, rev, code, want)
	}
	next, rev, code := impl.HubSubmit(h, "abc", 2, 2, 9, op(keep(3), put(66)))
	e = impl.Entry{Client: 2, Seq: 2, O: op(keep(4), put(66))}
	want.Docs[1].List = append(want.Docs[1].List, e)
	want.Docs[1].Seen[1] = impl.Seen{Client: 2, Seq: 2, Rev: 11}
	want.Subs[0].R.List = append(want.Subs[0].R.List, e)
	if code != impl.OtOk || rev != 11 || !hubAlike(next, want) || !impl.HubOk(next) {
		t.Errorf("HubSubmit to abc again: %v %d %d, not %v", next, rev, code, want)
	}
	next, rev, code = impl.HubSubmit(next, "abc", 8, 2, 11, op(drop(5)))
	want.Docs[1].List = append(want.Docs[1].List, impl.Entry{Client: 8, Seq: 2, O: op(drop(5))})
	want.Docs[1].Seen[4] = impl.Seen{Client: 8, Seq: 2, Rev: 12}
	want.Subs[0].R = impl.Ring{Cap: 2, Next: 10, Out: true}
	if code != impl.OtOk || rev != 12 || !hubAlike(next, want) || !impl.HubOk(next) {
		t.Errorf("HubSubmit to abc once more: %v %d %d, not %v", next, rev, code, want)
	}
}

// TestP8SubmitForgetsAnEntry: the window moves on, and the subscriber still
// gets the new entry.
func TestP8SubmitForgetsAnEntry(t *testing.T) {
	base := baseHub()
	full := letters(impl.MaxText)
	h, rev, code := impl.HubSubmit(base, "abcdefgz", 8, impl.MaxNum, 0, nil)
	if code != impl.OtOk || rev != 501 || !hubAlike(h, base) {
		t.Errorf("HubSubmit again: %v %d %d", h, rev, code)
	}
	read := execute(base, hubCall{kind: "poll", id: 9, n: 2})
	h, rev, code = impl.HubSubmit(read.h, "abcdefgz", 1, 100, 508, op(drop(impl.MaxText)))
	want := copiedHub(read.h)
	want.Docs[2].From, want.Docs[2].Text = 501, numbered(impl.MaxText)
	want.Docs[2].List = append(want.Docs[2].List[1:], impl.Entry{Client: 1, Seq: 100, O: op(drop(impl.MaxText))})
	want.Docs[2].Seen[0] = impl.Seen{Client: 1, Seq: 100, Rev: 509}
	want.Subs[4].R.List = append(want.Subs[4].R.List, impl.Entry{Client: 1, Seq: 100, O: op(drop(impl.MaxText))})
	if code != impl.OtOk || rev != 509 || !hubAlike(h, want) || !impl.HubOk(h) || len(h.Subs[4].R.List) != 5 {
		t.Errorf("HubSubmit to a full window: %v %d %d, not %v", h, rev, code, want)
	}
	if got := checkCall(t, h, hubCall{kind: "submit", name: "abcdefgz", q: request{2, 99, 509, op(put(full...))}}); got.n != 510 || len(got.h.Subs[4].R.List) != 6 {
		t.Errorf("HubSubmit to a full window again: %v", got)
	}
}

// TestP8RepeatedRequestsTellNobody: the hub stays as it is, also if its rings
// are full.
func TestP8RepeatedRequestsTellNobody(t *testing.T) {
	for _, own := range hubCases() {
		h := own
		h.Shut = false
		for _, d := range h.Docs {
			for _, s := range d.Seen {
				for _, o := range [][]impl.Part{nil, op(keep(3), put(97)), op(drop(200))} {
					got, rev, code := impl.HubSubmit(h, d.Name, s.Client, s.Seq, d.From-3+s.Client, o)
					if code != impl.OtOk || rev != s.Rev || !hubAlike(got, h) {
						t.Errorf("HubSubmit of %v again to %v: %v %d %d", s, h, got, rev, code)
					}
				}
			}
		}
	}
}

// TestP9SubmitIsSubmit: the document becomes what Submit makes of it, and the
// codes are those of Submit.
func TestP9SubmitIsSubmit(t *testing.T) {
	docs, l := sharingCases()
	for i, d := range docs {
		h := impl.Hub{Docs: []impl.Doc{d}, Last: 3}
		q := l[i]
		want, rev, code := impl.Submit(d, q.client, q.seq, q.base, q.o)
		got, at, told := impl.HubSubmit(h, d.Name, q.client, q.seq, q.base, q.o)
		next := impl.Hub{}
		if code == impl.OtOk {
			next = impl.Hub{Docs: []impl.Doc{want}, Last: 3}
		}
		if told != code || at != rev || !hubAlike(got, next) {
			t.Errorf("HubSubmit(%v, %v): %v %d %d, not %v %d %d", d, q, got, at, told, want, rev, code)
		}
	}
	for _, o := range notOk() {
		refuses(t, baseHub(), hubCall{kind: "submit", name: "abc", q: request{2, 1, 9, o}}, impl.OtInvalid)
	}
	for _, n := range append(farNumbers(), -1, 0, 9, 10, impl.MaxNum+1) {
		refuses(t, baseHub(), hubCall{kind: "submit", name: "abc", q: request{n, 1, 9, op(keep(3))}}, impl.OtInvalid)
	}
}

// TestP8SubmitWithEveryRing: a ring with room gets the entry, whatever is in
// it, and only a full one goes out.
func TestP8SubmitWithEveryRing(t *testing.T) {
	d := named(chainDoc().d, "b")
	others := []impl.Doc{named(d, "a"), d, named(d, "c")}
	for room := 1; room <= impl.MaxCap; room++ {
		for n := range room + 1 {
			h := impl.Hub{Docs: others, Last: 6}
			for i := range 6 {
				h.Subs = append(h.Subs, watcher(i+1, others[i%3], room, n))
			}
			got := checkCall(t, h, hubCall{kind: "submit", name: "b", q: request{2, 1, 9, op(drop(3))}})
			if got.code != impl.OtOk || got.n != 10 {
				t.Fatalf("HubSubmit to %v: %v", h, got)
			}
			for i, s := range got.h.Subs {
				mine := s.Doc == "b"
				if s.R.Out != (mine && n == room) || !mine && !subAlike(s, h.Subs[i]) || mine && n < room && len(s.R.List) != n+1 {
					t.Errorf("HubSubmit to %v: %v", h, s)
				}
			}
		}
	}
}

// TestP8Poll is compared with RingPoll: only this subscriber changes.
func TestP8Poll(t *testing.T) {
	for _, h := range hubCases() {
		for i, s := range h.Subs {
			for _, n := range []int{1, 2, 3, 5, 6, 7, 100, impl.MaxNum, math.MaxInt} {
				ring, l, code := impl.RingPoll(s.R, n)
				got, read, told := impl.HubPoll(h, s.Id, n)
				want := impl.Hub{}
				if code == impl.OtOk {
					want = copiedHub(h)
					want.Subs[i].R = ring
				}
				if told != code || !hubAlike(got, want) || !entriesAlike(read, l) || code == impl.OtOk && !impl.HubOk(got) {
					t.Errorf("HubPoll(%v, %d, %d): %v %v %d", h, s.Id, n, got, read, told)
				}
			}
		}
	}
}

// TestP8Resync: the subscriber gets the last text, and from there on all
// entries; nothing else changes.
func TestP8Resync(t *testing.T) {
	for _, h := range hubCases() {
		for i, s := range h.Subs {
			d := h.Docs[docIndex(h, s.Doc)]
			got, text, rev, code := impl.HubResync(h, s.Id)
			want := copiedHub(h)
			want.Subs[i].R = impl.Ring{Cap: s.R.Cap, Next: headOf(d) + 1}
			if code != impl.OtOk || rev != headOf(d) || !slices.Equal(text, stepText(d)) || !hubAlike(got, want) || !impl.HubOk(got) {
				t.Errorf("HubResync(%v, %d): %v %v %d %d", h, s.Id, got, text, rev, code)
			}
		}
	}
	base := baseHub()
	for id, want := range map[int]string{2: "DBE", 3: "BabA", 5: "DBE", 6: "DBE", 9: impl.Bytes(letters(impl.MaxText))} {
		if _, text, _, code := impl.HubResync(base, id); code != impl.OtOk || impl.Bytes(text) != want {
			t.Errorf("HubResync of %d: %q %d", id, impl.Bytes(text), code)
		}
	}
}

func TestP13HubSame(t *testing.T) {
	base := baseHub()
	for _, other := range changedHubs() {
		if hubAlike(base, other) {
			t.Fatalf("%v is not changed", other)
		}
		if impl.HubSame(base, other) || impl.HubSame(other, base) {
			t.Errorf("HubSame of %v is true", other)
		}
	}
	hubs := slices.Concat(hubCases(), badHubs(), changedHubs())
	for i, h := range hubs {
		if !impl.HubSame(h, h) || !impl.HubSame(h, copiedHub(h)) || !impl.HubSame(copiedHub(h), h) {
			t.Errorf("HubSame of %v and itself is false", h)
		}
		for _, other := range []impl.Hub{hubs[(i+1)%len(hubs)], hubs[(i*7+3)%len(hubs)]} {
			if impl.HubSame(h, other) != hubAlike(h, other) {
				t.Errorf("HubSame(%v, %v) is %v", h, other, impl.HubSame(h, other))
			}
		}
	}
}

// withNoneInHub returns h with empty lists, nil or not, in the place of all
// empty lists.
func withNoneInHub(h impl.Hub, nils bool) impl.Hub {
	var docs []impl.Doc
	var subs []impl.Sub
	if !nils {
		docs, subs = []impl.Doc{}, []impl.Sub{}
	}
	h.Docs, h.Subs = append(docs, h.Docs...), append(subs, h.Subs...)
	for i, d := range h.Docs {
		h.Docs[i] = withNone(d, nils)
	}
	for i, s := range h.Subs {
		h.Subs[i].R = withNoneOf(s.R, nils)
	}
	return h
}

func TestP13HubNilAndEmptyAreEqual(t *testing.T) {
	r := rand.New(rand.NewSource(64))
	for i, h := range hubCases() {
		absent, empty := withNoneInHub(h, true), withNoneInHub(h, false)
		if !impl.HubSame(absent, empty) || !impl.HubSame(empty, absent) || !impl.HubSame(empty, h) {
			t.Errorf("%v and %v differ", absent, empty)
		}
		if !impl.HubOk(absent) || !impl.HubOk(empty) {
			t.Errorf("HubOk of %v or of %v is false", absent, empty)
		}
		if i%3 != 0 {
			continue
		}
		for _, c := range hubCalls(r, h) {
			checkCall(t, absent, c)
			checkCall(t, empty, c)
		}
	}
	for _, none := range [][]int{nil, {}} {
		checkCall(t, impl.Hub{}, hubCall{kind: "open", name: "a", text: none})
	}
	for _, none := range [][]impl.Part{nil, {}, emptied(op(keep(3)), []int{})} {
		checkCall(t, baseHub(), hubCall{kind: "submit", name: "abc", q: request{2, 1, 9, none}})
	}
}

// sparedHub returns a deep copy of h with spare capacity behind every slice,
// with names of its own, and a check that none of it was written.
func sparedHub(h impl.Hub) (impl.Hub, func() bool) {
	var checks []func() bool
	whole := impl.Hub{Shut: h.Shut, Last: h.Last}
	for _, d := range h.Docs {
		next, kept := sparedDoc(d)
		next.Name = strings.Clone(d.Name)
		whole.Docs, checks = append(whole.Docs, next), append(checks, kept)
	}
	for _, s := range h.Subs {
		ring, kept := sparedRing(s.R)
		whole.Subs, checks = append(whole.Subs, impl.Sub{Id: s.Id, Doc: strings.Clone(s.Doc), R: ring}), append(checks, kept)
	}
	whole.Docs = append(whole.Docs, impl.Doc{Name: "spare"}, impl.Doc{From: 8})
	whole.Subs = append(whole.Subs, impl.Sub{Id: 88}, impl.Sub{Doc: "spare"})
	wanted := copiedHub(whole)
	result := whole
	result.Docs, result.Subs = whole.Docs[:len(h.Docs)], whole.Subs[:len(h.Subs)]
	return result, func() bool {
		for _, kept := range checks {
			if !kept() {
				return false
			}
		}
		return hubAlike(whole, wanted)
	}
}

// sparedCall is the same for the slices of a call.
func sparedCall(c hubCall) (hubCall, func() bool) {
	text, keptText := spared(c.text)
	o, keptOp := sparedOp(c.q.o)
	c.text, c.q.o, c.name = text, o, strings.Clone(c.name)
	return c, func() bool { return keptText() && keptOp() }
}

// spoilHub overwrites every slice of h up to its capacity.
func spoilHub(h impl.Hub) {
	for _, d := range h.Docs {
		spoilDoc(d)
	}
	for _, s := range h.Subs {
		spoilEntries(s.R.List)
	}
	clear(h.Docs[:cap(h.Docs)])
	clear(h.Subs[:cap(h.Subs)])
}

// separateResult reports whether no two slices of r share memory. It overwrites
// all of them, up to their capacity.
func separateResult(r hubResult) bool {
	return separateHub(r.h, [][]int{r.text}, [][]impl.Entry{r.list})
}

// separateHub is the same for a hub with texts and lists.
func separateHub(h impl.Hub, texts [][]int, lists [][]impl.Entry) bool {
	lists = slices.Clone(lists)
	for _, d := range h.Docs {
		texts, lists = append(texts, d.Text), append(lists, d.List)
	}
	for _, s := range h.Subs {
		lists = append(lists, s.R.List)
	}
	for _, text := range texts {
		// A text is looked at as the characters of one more operation.
		lists = append(lists, []impl.Entry{{O: op(put(text...))}})
	}
	if !separateEntries(lists...) {
		return false
	}
	for i, d := range h.Docs {
		for j := range d.Seen[:cap(d.Seen)] {
			d.Seen[:cap(d.Seen)][j].Client = i
		}
	}
	for i, d := range h.Docs {
		for _, s := range d.Seen[:cap(d.Seen)] {
			if s.Client != i {
				return false
			}
		}
	}
	return true
}

// takesName reports whether a name in got lies in the memory of the arguments.
func takesName(got impl.Hub, h impl.Hub, c hubCall) bool {
	var own, given []string
	for _, d := range got.Docs {
		own = append(own, d.Name)
	}
	for _, s := range got.Subs {
		own = append(own, s.Doc)
	}
	given = append(given, c.name)
	for _, d := range h.Docs {
		given = append(given, d.Name)
	}
	for _, s := range h.Subs {
		given = append(given, s.Doc)
	}
	for _, a := range own {
		for _, b := range given {
			if within(a, b) {
				return true
			}
		}
	}
	return false
}

func TestP13HubArgumentsAreNotChanged(t *testing.T) {
	r := rand.New(rand.NewSource(65))
	for _, own := range slices.Concat(hubCases(), badHubs(), changedHubs()) {
		h, kept := sparedHub(own)
		other, keptOther := sparedHub(own)
		impl.HubOk(h)
		impl.HubSame(h, other)
		impl.HubDoc(h, "abc")
		impl.HubSub(h, 3)
		small := own
		small.Docs, small.Subs = own.Docs[:min(5, len(own.Docs))], own.Subs[:min(6, len(own.Subs))]
		for _, ownCall := range hubCalls(r, small) {
			c, keptCall := sparedCall(ownCall)
			execute(h, c)
			if !keptCall() {
				t.Errorf("an argument was changed: %v", ownCall)
			}
		}
		if !kept() || !keptOther() {
			t.Errorf("an argument was changed: %v", own)
		}
	}
}

func TestP13HubResultsShareNothing(t *testing.T) {
	r := rand.New(rand.NewSource(66))
	for _, own := range hubCases() {
		for _, ownCall := range hubCalls(r, own) {
			h, kept := sparedHub(own)
			c, keptCall := sparedCall(ownCall)
			want := modelHub(own, ownCall)
			spoiled := execute(h, c)
			got := execute(h, c)
			if takesName(got.h, h, c) {
				t.Fatalf("%v of %v shares a name", ownCall, own)
			}
			if !separateResult(spoiled) {
				t.Fatalf("%v of %v: two slices share memory", ownCall, own)
			}
			spoilHub(spoiled.h)
			if !kept() || !keptCall() || !resultAlike(got, want) {
				t.Fatalf("%v of %v shares memory with an argument or with another result", ownCall, own)
			}
			spoilHub(h)
			spoil(c.text)
			spoilOp(c.q.o)
			if !resultAlike(got, want) {
				t.Fatalf("%v of %v depends on an argument after the call", ownCall, own)
			}
		}
	}
}

// TestP13HubOfOneList is about documents, rings and a call that have the same
// text, entries and characters.
func TestP13HubOfOneList(t *testing.T) {
	all := letters(6)
	o := op(put(all[1:3]...), drop(2), keep(1))
	list := entries(o, o)
	d := impl.Doc{Name: "a", Text: all[:3], List: list}
	h := impl.Hub{Docs: []impl.Doc{d, named(d, "b"), named(d, "c")}, Last: 4}
	h.Docs[2].List, h.Docs[2].Text = list, all[:3]
	for id, name := range []string{"a", "a", "c"} {
		h.Subs = append(h.Subs, impl.Sub{Id: id + 1, Doc: name, R: impl.Ring{Cap: 4, Next: 1, List: list}})
	}
	for _, c := range []hubCall{
		{kind: "open", name: "d", text: all[:3]}, {kind: "submit", name: "a", q: request{1, 1, 2, o}}, {kind: "subscribe", name: "a", n: 2},
		{kind: "poll", id: 1, n: 1}, {kind: "resync", id: 3}, {kind: "shut"},
	} {
		got := checkCall(t, h, c)
		if got.code != impl.OtOk || !separateResult(got) {
			t.Errorf("%v: two slices share memory, or the code is %d", c, got.code)
		}
	}
	if !slices.Equal(all, letters(6)) || !alike(o, op(put(98, 99), drop(2), keep(1))) {
		t.Errorf("the characters became %v, the operation %v", all, o)
	}
}

func TestP13HubResultsAreAlwaysTheSame(t *testing.T) {
	r := rand.New(rand.NewSource(67))
	for _, h := range []impl.Hub{baseHub(), fullHub()} {
		for _, c := range hubCalls(r, h) {
			want := modelHub(h, c)
			for range 20 {
				if got := execute(h, c); !resultAlike(got, want) {
					t.Fatalf("%v of %v depends on something else: %v", c, h, got)
				}
			}
		}
	}
}

// TestP9ManyCalls follows a hub from call to call: a rejected one leaves it as
// it was, an executed one leaves it valid.
func TestP9ManyCalls(t *testing.T) {
	r := rand.New(rand.NewSource(68))
	codes := map[int]int{}
	for range 60 {
		h := impl.Hub{Last: r.Intn(2) * (impl.MaxNum - 3)}
		for range 150 {
			names := []string{"a", "b", "c", "d", "e", "f"}
			c := hubCall{name: names[r.Intn(6)], id: h.Last - r.Intn(8), n: r.Intn(8), text: randomText(r, r.Intn(20))}
			c.kind = []string{"open", "submit", "submit", "submit", "submit", "submit", "subscribe", "poll", "poll", "resync"}[r.Intn(10)]
			if r.Intn(200) == 0 {
				c.kind = "shut"
			}
			if at := docIndex(h, c.name); at >= 0 {
				d := h.Docs[at]
				client, back := 1+r.Intn(3), max(0, r.Intn(12)-8)
				base := max(d.From, headOf(d)-back)
				c.q = request{client, nextSeq(d, client) - max(0, r.Intn(9)-7), base, nil}
				c.q.o = stepwiseNorm(mildOpOn(r, len(stepText(impl.Doc{Text: d.Text, List: d.List[:base-d.From]}))))
			}
			got := checkCall(t, h, c)
			codes[got.code]++
			if got.code == impl.OtOk {
				h = got.h
			}
		}
	}
	hasCodes(t, codes, impl.OtOk, impl.OtInvalid, impl.OtNoDoc, impl.OtHave, impl.OtNoSub, impl.OtEvicted, impl.OtFull, impl.OtClosed)
}

// reader is a subscriber with the text and the revision that it has.
type reader struct {
	name string
	text []int
	rev  int
	out  bool
}

// checkReader polls, and compares what the reader has then with the log.
func checkReader(t *testing.T, h impl.Hub, id int, p *reader, log []impl.Entry, n int) impl.Hub {
	t.Helper()
	next, l, code := impl.HubPoll(h, id, n)
	if p.out {
		if code != impl.OtEvicted {
			t.Fatalf("the subscriber %d of %v is not out", id, h)
		}
		next, text, rev, code := impl.HubResync(h, id)
		if code != impl.OtOk || rev != len(log) {
			t.Fatalf("the subscriber %d of %v starts at %d: %d", id, h, rev, code)
		}
		*p = reader{p.name, text, rev, false}
		return next
	}
	if code != impl.OtOk || len(l) != min(n, len(log)-p.rev) || !entriesAlike(l, log[p.rev:p.rev+len(l)]) {
		t.Fatalf("the subscriber %d of %v at %d reads %v: %d", id, h, p.rev, l, code)
	}
	for _, e := range l {
		p.text = effect(e.O, p.text)
	}
	p.rev += len(l)
	return next
}

// TestP8ReadsThroughTheHub: every subscriber gets what was committed to its
// document, in order and without gaps, until an entry finds its ring full.
func TestP8ReadsThroughTheHub(t *testing.T) {
	r := rand.New(rand.NewSource(69))
	evicted, longest := 0, 0
	for range 40 {
		names := []string{"a", "b", "c"}
		logs, readers := map[string][]impl.Entry{}, map[int]*reader{}
		var h impl.Hub
		for _, name := range names {
			h, _ = impl.HubOpen(h, name, letters(10))
		}
		for range 250 {
			name := names[r.Intn(3)]
			d := h.Docs[docIndex(h, name)]
			id := 1 + r.Intn(6)
			switch r.Intn(5) {
			case 0:
				next, id, code := impl.HubSubscribe(h, name, 1+r.Intn(6))
				if code == impl.OtOk {
					h, readers[id] = next, &reader{name, stepText(d), headOf(d), false}
				}
			case 1, 2:
				client := 1 + r.Intn(2)
				next, rev, code := impl.HubSubmit(h, name, client, nextSeq(d, client), headOf(d), mildOpOn(r, len(stepText(d))))
				if code != impl.OtOk {
					continue
				}
				for id, p := range readers {
					if at := subIndex(h, id); p.name == name && len(h.Subs[at].R.List) == h.Subs[at].R.Cap {
						p.out = true
						evicted++
					}
				}
				e := next.Docs[docIndex(next, name)].List
				h, logs[name] = next, append(logs[name], e[len(e)-1])
				if rev != len(logs[name]) {
					t.Fatalf("the revision is %d, not %d", rev, len(logs[name]))
				}
			default:
				if p := readers[id]; p != nil {
					h = checkReader(t, h, id, p, logs[p.name], 1+r.Intn(3))
					longest = max(longest, p.rev)
				}
			}
		}
		for id, p := range readers {
			for range 2 {
				h = checkReader(t, h, id, p, logs[p.name], 100)
			}
			if d := h.Docs[docIndex(h, p.name)]; p.rev != headOf(d) || !slices.Equal(p.text, stepText(d)) {
				t.Fatalf("the subscriber %d has %v at %d, not %v", id, p.text, p.rev, d)
			}
		}
	}
	if evicted < 100 || longest < 20 {
		t.Errorf("the rounds are one-sided: %d evicted, at most the revision %d", evicted, longest)
	}
}
