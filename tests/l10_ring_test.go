package tests

import (
	"math"
	"math/rand"
	"slices"
	"testing"

	"loop.example/g00797/impl"
)

// waiting returns n entries that can be told apart by their Seq, the first eight
// also by their client and by their operation.
func waiting(n int) []impl.Entry {
	full := numbered(impl.MaxText)
	ops := [][]impl.Part{
		op(keep(3), put(97, 98), drop(2)), nil, op(put(full...), drop(impl.MaxText)), op(keep(impl.MaxText)), op(drop(1)),
		op(put(0, impl.MaxSign), keep(4)), op(drop(2), keep(1), put(66), keep(1), put(67)), op(put(68)),
	}
	var l []impl.Entry
	for i := range n {
		l = append(l, impl.Entry{Client: 1 + i%8, Seq: 1 + 7*i, O: ops[i%8]})
	}
	return l
}

// ringCases are valid rings: of every capacity and with every number of
// entries, so that the entries stand at every place, and some that are out.
func ringCases() []impl.Ring {
	var l []impl.Ring
	for room := 1; room <= impl.MaxCap; room++ {
		for _, next := range []int{1, 2, 3, 4, 5, 6, 7, 60, 1000003, impl.MaxNum - 6, impl.MaxNum - 1, impl.MaxNum} {
			l = append(l, impl.Ring{Cap: room, Next: next, Out: true})
			for n := range room + 1 {
				l = append(l, impl.Ring{Cap: room, Next: next, List: waiting(n)})
			}
		}
	}
	return l
}

// copiedRing returns a deep copy, which may be changed at will.
func copiedRing(r impl.Ring) impl.Ring {
	r.List = copiedDoc(impl.Doc{List: r.List}).List
	return r
}

// entriesAlike and ringAlike compare without the program.
func entriesAlike(a []impl.Entry, b []impl.Entry) bool {
	return slices.EqualFunc(a, b, entryAlike)
}

func ringAlike(a impl.Ring, b impl.Ring) bool {
	return a.Cap == b.Cap && a.Next == b.Next && a.Out == b.Out && entriesAlike(a.List, b.List)
}

func isZeroRing(r impl.Ring) bool {
	return ringAlike(r, impl.Ring{})
}

// badEntries are not EntryOk.
func badEntries() []impl.Entry {
	fits := op(keep(2), put(97), drop(1))
	l := []impl.Entry{
		{}, {Client: 0, Seq: 1}, {Client: 9, Seq: 1}, {Client: -1, Seq: 1}, {Client: 1, Seq: 0}, {Client: 1, Seq: -1}, {Client: 1, Seq: impl.MaxNum + 1},
		{Client: 0, Seq: 1, O: fits}, {Client: 9, Seq: 1, O: fits}, {Client: 1, Seq: 0, O: fits}, {Client: 1, Seq: impl.MaxNum + 1, O: fits},
		{Client: 1, Seq: 1, O: op(keep(1), keep(1))}, {Client: 1, Seq: 1, O: op(drop(1), put(97))}, {Client: 1, Seq: 1, O: op(put())},
		{Client: 1, Seq: 1, O: op(keep(0))}, {Client: 1, Seq: 1, O: op(drop(0))},
	}
	for _, n := range farNumbers() {
		l = append(l, impl.Entry{Client: n, Seq: 1, O: fits}, impl.Entry{Client: 1, Seq: n, O: fits})
	}
	for _, o := range notOk() {
		l = append(l, impl.Entry{Client: 1, Seq: 1, O: o})
	}
	return l
}

// badRings are rings of which one field is not valid, or two do not agree.
func badRings() []impl.Ring {
	l := []impl.Ring{{}, {Out: true}, {List: waiting(1)}}
	for _, n := range append(farNumbers(), -1, 0, impl.MaxCap+1, impl.MaxCap+2, 100) {
		l = append(l, impl.Ring{Cap: n, Next: 1}, impl.Ring{Cap: n, Next: 1, Out: true}, impl.Ring{Cap: n, Next: 1, List: waiting(1)}, impl.Ring{Cap: n, Next: 1, List: waiting(6)})
	}
	for _, n := range append(farNumbers(), -2, -1, 0, impl.MaxNum+1, impl.MaxNum+2) {
		l = append(l, impl.Ring{Cap: 1, Next: n}, impl.Ring{Cap: 6, Next: n, Out: true}, impl.Ring{Cap: 3, Next: n, List: waiting(3)})
	}
	for room := 1; room <= impl.MaxCap; room++ {
		for n := 1; n <= 10; n++ {
			l = append(l, impl.Ring{Cap: room, Next: 7, Out: true, List: waiting(n)}, impl.Ring{Cap: room, Next: 7, List: waiting(room + n)})
		}
	}
	l = append(l, impl.Ring{Cap: 6, Next: 7, List: waiting(1000)}, impl.Ring{Cap: 6, Next: 7, Out: true, List: waiting(1000)})
	for _, e := range badEntries() {
		for at := range impl.MaxCap {
			r := impl.Ring{Cap: impl.MaxCap, Next: 7, List: waiting(impl.MaxCap)}
			r.List[at] = e
			l = append(l, r)
		}
		l = append(l, impl.Ring{Cap: 1, Next: 1, List: []impl.Entry{e}}, impl.Ring{Cap: 1, Next: 1, Out: true, List: []impl.Entry{e}})
	}
	return l
}

func TestP13RingConstants(t *testing.T) {
	if impl.MaxCap != 6 {
		t.Error("MaxCap differs from the document")
	}
}

func TestP13RingOk(t *testing.T) {
	for _, r := range ringCases() {
		if !impl.RingOk(r) || !soundRing(r) {
			t.Errorf("RingOk(%v) is %v", r, impl.RingOk(r))
		}
	}
	for _, r := range badRings() {
		if impl.RingOk(r) || soundRing(r) {
			t.Errorf("RingOk(%v) is %v", r, impl.RingOk(r))
		}
	}
}

// TestP13RingOkAtItsLimits is about all numbers around the limits together.
func TestP13RingOkAtItsLimits(t *testing.T) {
	for room := -2; room <= 9; room++ {
		for _, next := range []int{-1, 0, 1, 2, impl.MaxNum - 1, impl.MaxNum, impl.MaxNum + 1} {
			for n := range 10 {
				r := impl.Ring{Cap: room, Next: next, List: waiting(n)}
				fits := room >= 1 && room <= 6 && next >= 1 && next <= 1000000000
				if want := fits && n <= room; impl.RingOk(r) != want {
					t.Errorf("RingOk(%v) is %v", r, !want)
				}
				r.Out = true
				if want := fits && n == 0; impl.RingOk(r) != want {
					t.Errorf("RingOk(%v) is %v", r, !want)
				}
			}
		}
	}
}

// TestP13RingOkOfEntries: the entries need not fit together, but each must be
// EntryOk.
func TestP13RingOkOfEntries(t *testing.T) {
	for _, a := range entryNumbers() {
		for _, b := range entryNumbers() {
			for at := range 3 {
				r := impl.Ring{Cap: 4, Next: 1, List: waiting(3)}
				r.List[at] = impl.Entry{Client: a.n, Seq: b.n, O: op(keep(at))}
				want := a.client && b.seq && at > 0
				if impl.RingOk(r) != want {
					t.Errorf("RingOk(%v) is %v", r, !want)
				}
			}
		}
	}
	same := impl.Entry{Client: 3, Seq: 5, O: op(drop(7))}
	if r := (impl.Ring{Cap: 6, Next: 9, List: slices.Repeat([]impl.Entry{same}, 6)}); !impl.RingOk(r) {
		t.Errorf("RingOk(%v) is false", r)
	}
}

func checkRingNew(t *testing.T, room int, rev int, ok bool) {
	t.Helper()
	want := impl.Ring{}
	if ok {
		want = impl.Ring{Cap: room, Next: rev + 1}
	}
	got, told := impl.RingNew(room, rev)
	if told != ok || !ringAlike(got, want) {
		t.Errorf("RingNew(%d, %d): %v %v", room, rev, got, told)
	}
	if ok && (!impl.RingOk(got) || impl.RingLag(got) != 0) {
		t.Errorf("RingNew(%d, %d) is not valid or has entries: %v", room, rev, got)
	}
}

// ringNumber is a number with whether it is a capacity and a revision from
// which a ring can start.
type ringNumber struct {
	n         int
	room, rev bool
}

func ringNumbers() []ringNumber {
	l := []ringNumber{
		{-2, false, false}, {-1, false, false}, {0, false, true}, {1, true, true}, {2, true, true}, {3, true, true}, {5, true, true}, {6, true, true},
		{7, false, true}, {8, false, true}, {500, false, true}, {999999998, false, true}, {999999999, false, true}, {1000000000, false, false}, {1000000001, false, false},
	}
	for _, n := range farNumbers() {
		l = append(l, ringNumber{n, false, false})
	}
	return l
}

func TestP13RingNew(t *testing.T) {
	for _, a := range ringNumbers() {
		for _, b := range ringNumbers() {
			checkRingNew(t, a.n, b.n, a.room && b.rev)
		}
	}
}

// modelPush follows the document's words for RingPush on a plain list.
func modelPush(r impl.Ring, e impl.Entry) impl.Ring {
	next := copiedRing(r)
	switch {
	case !soundRing(r) || !soundEntry(e) || r.Out:
	case len(r.List) == r.Cap:
		next.Out, next.List = true, nil
	default:
		next.List = append(next.List, e)
	}
	return next
}

// modelPoll follows the document's words for RingPoll on a plain list.
func modelPoll(r impl.Ring, n int) (impl.Ring, []impl.Entry, int) {
	next := copiedRing(r)
	if !soundRing(r) || n < 1 {
		return next, nil, impl.OtInvalid
	}
	if r.Out {
		return next, nil, impl.OtEvicted
	}
	many := min(n, len(r.List))
	next.Next, next.List = r.Next+many, next.List[many:]
	return next, copiedRing(r).List[:many], impl.OtOk
}

// soundRing checks a ring without the program, but for OpOk.
func soundRing(r impl.Ring) bool {
	if r.Cap < 1 || r.Cap > 6 || r.Next < 1 || r.Next > 1000000000 || len(r.List) > r.Cap || r.Out && len(r.List) > 0 {
		return false
	}
	for _, e := range r.List {
		if !soundEntry(e) {
			return false
		}
	}
	return true
}

func checkPush(t *testing.T, r impl.Ring, e impl.Entry) impl.Ring {
	t.Helper()
	want := modelPush(r, e)
	got := impl.RingPush(r, e)
	if !ringAlike(got, want) || !impl.RingSame(got, want) {
		t.Fatalf("RingPush(%v, %v): %v, not %v", r, e, got, want)
	}
	return got
}

func checkPoll(t *testing.T, r impl.Ring, n int) impl.Ring {
	t.Helper()
	want, list, code := modelPoll(r, n)
	got, l, told := impl.RingPoll(r, n)
	if told != code || !ringAlike(got, want) || !impl.RingSame(got, want) || !entriesAlike(l, list) {
		t.Fatalf("RingPoll(%v, %d): %v %v %d, not %v %v %d", r, n, got, l, told, want, list, code)
	}
	return got
}

// TestP8PushWrittenOut has a subscriber who never reads.
func TestP8PushWrittenOut(t *testing.T) {
	e := entries(op(keep(2)), op(put(97), keep(2)), op(drop(3)), nil)
	r, _ := impl.RingNew(3, 41)
	want := []impl.Ring{
		{Cap: 3, Next: 42, List: e[:1]},
		{Cap: 3, Next: 42, List: e[:2]},
		{Cap: 3, Next: 42, List: e[:3]},
		{Cap: 3, Next: 42, Out: true},
		{Cap: 3, Next: 42, Out: true},
	}
	for i, w := range want {
		r = impl.RingPush(r, e[i%4])
		if !ringAlike(r, w) {
			t.Errorf("after %d entries: %v, not %v", i+1, r, w)
		}
	}
}

// TestP8PollWrittenOut reads the same ring in different pieces.
func TestP8PollWrittenOut(t *testing.T) {
	e := entries(op(keep(2)), op(put(97), keep(2)), op(drop(3)), nil)
	r := impl.Ring{Cap: 5, Next: 42, List: e}
	for n, at := range map[int]int{1: 1, 2: 2, 3: 3, 4: 4, 5: 4, 6: 4, 7: 4, 100: 4, impl.MaxNum: 4, math.MaxInt: 4, math.MaxInt - 41: 4, math.MaxInt - 42: 4} {
		got, l, code := impl.RingPoll(r, n)
		if code != impl.OtOk || !entriesAlike(l, e[:at]) || !ringAlike(got, impl.Ring{Cap: 5, Next: 42 + at, List: e[at:]}) {
			t.Errorf("RingPoll of %d: %v %v %d", n, got, l, code)
		}
	}
	for i := range 4 {
		next, l, code := impl.RingPoll(r, 1)
		if code != impl.OtOk || !entriesAlike(l, e[i:i+1]) || !ringAlike(next, impl.Ring{Cap: 5, Next: 43 + i, List: e[i+1:]}) {
			t.Errorf("RingPoll number %d: %v %v %d", i, next, l, code)
		}
		r = next
	}
	got, l, code := impl.RingPoll(r, 1)
	if code != impl.OtOk || len(l) != 0 || !ringAlike(got, impl.Ring{Cap: 5, Next: 46}) {
		t.Errorf("RingPoll of an empty ring: %v %v %d", got, l, code)
	}
}

// TestP8EvictedExactlyIfFull: a ring is out after an entry if it had Cap
// entries before, whatever its other numbers are.
func TestP8EvictedExactlyIfFull(t *testing.T) {
	for _, r := range ringCases() {
		for _, e := range waiting(8) {
			got := checkPush(t, r, e)
			full := len(r.List) == r.Cap
			if got.Out != (full || r.Out) || got.Cap != r.Cap || got.Next != r.Next || !impl.RingOk(got) {
				t.Fatalf("RingPush(%v, %v): %v", r, e, got)
			}
			if !got.Out && (!entriesAlike(got.List[:len(r.List)], r.List) || !entryAlike(got.List[len(r.List)], e)) {
				t.Fatalf("RingPush(%v, %v) changes the order: %v", r, e, got)
			}
			if got.Out && len(got.List) != 0 {
				t.Fatalf("RingPush(%v, %v) leaves entries: %v", r, e, got)
			}
		}
	}
}

// TestP13PushOfBadEntries: the ring stays as it is, also if it is full.
func TestP13PushOfBadEntries(t *testing.T) {
	bad := badEntries()
	for i, r := range ringCases() {
		for j := range 12 {
			e := bad[(12*i+j)%len(bad)]
			if got := impl.RingPush(r, e); !ringAlike(got, r) {
				t.Errorf("RingPush(%v, %v): %v", r, e, got)
			}
		}
	}
	for _, e := range bad {
		for _, r := range []impl.Ring{{Cap: 2, Next: 5}, {Cap: 2, Next: 5, List: waiting(1)}, {Cap: 2, Next: 5, List: waiting(2)}, {Cap: 2, Next: 5, Out: true}} {
			if got := impl.RingPush(r, e); !ringAlike(got, r) {
				t.Errorf("RingPush(%v, %v): %v", r, e, got)
			}
		}
	}
}

// TestP13PushToBadRings: they stay as they are, whatever is pushed.
func TestP13PushToBadRings(t *testing.T) {
	for _, r := range badRings() {
		for _, e := range append(waiting(2), impl.Entry{}, impl.Entry{Client: 1, Seq: 1, O: op(keep(-1))}) {
			if got := impl.RingPush(r, e); !ringAlike(got, r) {
				t.Errorf("RingPush(%v, %v): %v", r, e, got)
			}
			checkPush(t, r, e)
		}
	}
}

// pollNumbers are below 1, around the numbers of entries, and very large.
func pollNumbers() []int {
	return append(farNumbers(), -2, -1, 0, 1, 2, 3, 4, 5, 6, 7, 8, 100, impl.MaxNum, impl.MaxNum+1)
}

// TestP8PollLosesNothing: what is read and what remains is what was waiting.
func TestP8PollLosesNothing(t *testing.T) {
	for _, r := range ringCases() {
		for _, n := range pollNumbers() {
			got := checkPoll(t, r, n)
			if r.Out || n < 1 {
				continue
			}
			_, l, code := impl.RingPoll(r, n)
			if code != impl.OtOk || len(l) != min(n, len(r.List)) || got.Next != r.Next+len(l) || got.Cap != r.Cap || got.Out {
				t.Fatalf("RingPoll(%v, %d): %v %v %d", r, n, got, l, code)
			}
			if !entriesAlike(slices.Concat(l, got.List), r.List) {
				t.Fatalf("RingPoll(%v, %d) loses entries: %v %v", r, n, got, l)
			}
		}
	}
}

func TestP13PollCodes(t *testing.T) {
	refuses := func(r impl.Ring, n int, code int) {
		t.Helper()
		got, l, told := impl.RingPoll(r, n)
		if told != code || len(l) != 0 || !ringAlike(got, r) {
			t.Errorf("RingPoll(%v, %d): %v %v %d, not the code %d", r, n, got, l, told, code)
		}
	}
	for _, r := range ringCases() {
		for _, n := range pollNumbers() {
			if n < 1 {
				refuses(r, n, impl.OtInvalid)
			} else if r.Out {
				refuses(r, n, impl.OtEvicted)
			}
		}
	}
	for _, r := range badRings() {
		for _, n := range []int{math.MinInt, -1, 0, 1, 2, 6, 7, math.MaxInt} {
			refuses(r, n, impl.OtInvalid)
		}
	}
}

// TestP13PollBeyondTheLastRevision: the document names no condition for the
// new Next, so that the ring may not be valid any more.
func TestP13PollBeyondTheLastRevision(t *testing.T) {
	for back := range 8 {
		for n := range impl.MaxCap + 1 {
			for many := 1; many <= 7; many++ {
				r := impl.Ring{Cap: impl.MaxCap, Next: impl.MaxNum - back, List: waiting(n)}
				got := checkPoll(t, r, many)
				read := min(n, many)
				if got.Next != impl.MaxNum-back+read || impl.RingOk(got) != (read <= back) {
					t.Errorf("RingPoll(%v, %d): %v", r, many, got)
				}
				checkPoll(t, got, 1)
				checkPush(t, got, waiting(1)[0])
			}
		}
	}
}

func TestP13RingResync(t *testing.T) {
	rings := append(ringCases(), badRings()...)
	for _, r := range rings {
		for _, c := range ringNumbers() {
			ok := soundRing(r) && c.rev
			want := impl.Ring{}
			if ok {
				want = impl.Ring{Cap: r.Cap, Next: c.n + 1}
			}
			if got, told := impl.RingResync(r, c.n); told != ok || !ringAlike(got, want) {
				t.Errorf("RingResync(%v, %d): %v %v", r, c.n, got, told)
			}
		}
		if got, ok := impl.RingResync(r, r.Next-1); ok != soundRing(r) || ok && !ringAlike(got, impl.Ring{Cap: r.Cap, Next: r.Next}) {
			t.Errorf("RingResync(%v) at its own revision: %v %v", r, got, ok)
		}
	}
}

func TestP13RingLag(t *testing.T) {
	for room := -1; room <= 8; room++ {
		for n := range 20 {
			r := impl.Ring{Cap: room, Next: 1, List: waiting(n)}
			if got := impl.RingLag(r); got != n {
				t.Errorf("RingLag(%v): %d", r, got)
			}
			r.Out = true
			if got := impl.RingLag(r); got != -1 {
				t.Errorf("RingLag(%v): %d", r, got)
			}
		}
	}
	for _, r := range append(ringCases(), badRings()...) {
		want := len(r.List)
		if r.Out {
			want = -1
		}
		if got := impl.RingLag(r); got != want {
			t.Errorf("RingLag(%v): %d, not %d", r, got, want)
		}
	}
}

// changedRings are copies of a full ring of which each differs in one place.
func changedRings() []impl.Ring {
	var l []impl.Ring
	with := func(change func(r *impl.Ring)) {
		r := copiedRing(impl.Ring{Cap: 6, Next: 9, List: waiting(6)})
		change(&r)
		l = append(l, r)
	}
	for _, n := range append(farNumbers(), -9, -6, 0, 1, 5, 7, 8, 10, 6+1<<32, 9+1<<32) {
		with(func(r *impl.Ring) { r.Cap = n })
		with(func(r *impl.Ring) { r.Next = n })
	}
	with(func(r *impl.Ring) { r.Cap, r.Next = 9, 6 })
	with(func(r *impl.Ring) { r.Out = true })
	with(func(r *impl.Ring) { r.List = nil })
	with(func(r *impl.Ring) { r.List = append(r.List, r.List[5]) })
	with(func(r *impl.Ring) { r.List = append(r.List, impl.Entry{}) })
	with(func(r *impl.Ring) { slices.Reverse(r.List) })
	for at := range 6 {
		with(func(r *impl.Ring) { r.List[at].Client++ })
		with(func(r *impl.Ring) { r.List[at].Seq++ })
		with(func(r *impl.Ring) { r.List[at].Seq += 1 << 32 })
		with(func(r *impl.Ring) { r.List[at].O = append(r.List[at].O, keep(0)) })
		with(func(r *impl.Ring) { r.List[at] = impl.Entry{} })
		with(func(r *impl.Ring) { r.List = r.List[:at] })
		with(func(r *impl.Ring) { r.List = slices.Delete(r.List, at, at+1) })
		with(func(r *impl.Ring) { r.List = slices.Insert(r.List, at, r.List[at]) })
	}
	for at := range 5 {
		with(func(r *impl.Ring) { r.List[at], r.List[at+1] = r.List[at+1], r.List[at] })
	}
	with(func(r *impl.Ring) { r.List[0].O[1].Signs[1]++ })
	with(func(r *impl.Ring) { r.List[2].O[0].Signs[199]-- })
	with(func(r *impl.Ring) { r.List[3].O[0].N-- })
	with(func(r *impl.Ring) { r.List[3].O[0].Kind = impl.PtDrop })
	return append(l, impl.Ring{})
}

func TestP13RingSame(t *testing.T) {
	r := impl.Ring{Cap: 6, Next: 9, List: waiting(6)}
	for _, other := range changedRings() {
		if other.Cap == 6 && other.Next == 9 && !other.Out && entriesAlike(other.List, r.List) {
			t.Fatalf("%v is not changed", other)
		}
		if impl.RingSame(r, other) || impl.RingSame(other, r) {
			t.Errorf("RingSame of %v is true", other)
		}
	}
	rings := slices.Concat(ringCases(), badRings(), changedRings())
	for i, r := range rings {
		if !impl.RingSame(r, r) || !impl.RingSame(r, copiedRing(r)) || !impl.RingSame(copiedRing(r), r) {
			t.Errorf("RingSame of %v and itself is false", r)
		}
		for _, other := range []impl.Ring{rings[(i+1)%len(rings)], rings[(i*7+3)%len(rings)]} {
			if impl.RingSame(r, other) != ringAlike(r, other) {
				t.Errorf("RingSame(%v, %v) is %v", r, other, impl.RingSame(r, other))
			}
		}
	}
}

// TestP8ManyPushesAndPolls compares a ring with a plain list: all entries are
// read in order and without gaps until a push finds the ring full.
func TestP8ManyPushesAndPolls(t *testing.T) {
	r := rand.New(rand.NewSource(51))
	evicted, longest := 0, 0
	for round := range 300 {
		start := 1 + r.Intn(20)
		ring, ok := impl.RingNew(1+r.Intn(6), start-1)
		if !ok {
			t.Fatal("there is no ring")
		}
		pushed, read := 0, 0
		all := waiting(200)
		for pushed < len(all) && !ring.Out {
			if r.Intn(2+round%3) == 0 {
				full := pushed-read == ring.Cap
				ring = checkPush(t, ring, all[pushed])
				pushed++
				if ring.Out != full {
					t.Fatalf("with %d of %d entries: %v", pushed-read-1, ring.Cap, ring)
				}
				continue
			}
			n := 1 + r.Intn(4)
			next, l, code := impl.RingPoll(ring, n)
			if code != impl.OtOk || len(l) != min(n, pushed-read) || !entriesAlike(l, all[read:read+len(l)]) {
				t.Fatalf("RingPoll(%v, %d): %v %d", ring, n, l, code)
			}
			ring, read = next, read+len(l)
			if ring.Next != start+read || impl.RingLag(ring) != pushed-read || !entriesAlike(ring.List, all[read:pushed]) {
				t.Fatalf("after %d entries, of which %d are read: %v", pushed, read, ring)
			}
		}
		longest = max(longest, read)
		if ring.Out {
			evicted++
		}
		if ring.Out && (ring.Next != start+read || impl.RingLag(ring) != -1) {
			t.Fatalf("evicted after %d entries: %v", read, ring)
		}
	}
	if evicted < 100 || longest < 100 {
		t.Errorf("the rounds are one-sided: %d evicted, at most %d entries read", evicted, longest)
	}
}

// TestP8ReadsWhatWasCommitted: a subscriber gets from the text at the start to
// the last one, and after an eviction it starts again.
func TestP8ReadsWhatWasCommitted(t *testing.T) {
	r := rand.New(rand.NewSource(52))
	d := impl.Doc{Name: "a", From: 3, Text: letters(20)}
	ring, _ := impl.RingNew(4, impl.HeadRev(d))
	text, rev := impl.HeadText(d), impl.HeadRev(d)
	evicted := 0
	for range 2000 {
		if r.Intn(2) == 0 {
			now := impl.HeadText(d)
			next, _, code := impl.Submit(d, 1, nextSeq(d, 1), impl.HeadRev(d), stepwiseNorm(mildOpOn(r, len(now))))
			if code == impl.OtOk && impl.HeadRev(next) > impl.HeadRev(d) {
				d = next
				ring = impl.RingPush(ring, d.List[len(d.List)-1])
			}
			continue
		}
		next, l, code := impl.RingPoll(ring, 1+r.Intn(3))
		if code == impl.OtEvicted {
			evicted++
			ring, _ = impl.RingResync(ring, impl.HeadRev(d))
			text, rev = impl.HeadText(d), impl.HeadRev(d)
			continue
		}
		for _, e := range l {
			text, _ = impl.Apply(e.O, text)
			rev++
		}
		ring = next
		want, ok := impl.TextAt(d, rev)
		if code != impl.OtOk || ring.Next != rev+1 || ok && !slices.Equal(text, want) || impl.RingLag(ring) != impl.HeadRev(d)-rev {
			t.Fatalf("at revision %d of %v: %v %d", rev, d, ring, code)
		}
	}
	if evicted < 10 || impl.HeadRev(d) < 500 {
		t.Errorf("only %d evictions and %d revisions", evicted, impl.HeadRev(d))
	}
}

// withNoneOf returns r with empty lists, nil or not, in the place of all empty
// lists.
func withNoneOf(r impl.Ring, nils bool) impl.Ring {
	r.List = withNone(impl.Doc{List: r.List}, nils).List
	return r
}

func TestP13RingNilAndEmptyAreEqual(t *testing.T) {
	for _, r := range append(ringCases(), badRings()...) {
		absent, empty := withNoneOf(r, true), withNoneOf(r, false)
		if !impl.RingSame(absent, empty) || !impl.RingSame(empty, absent) || !impl.RingSame(empty, r) {
			t.Errorf("%v and %v differ", absent, empty)
		}
		for _, same := range []impl.Ring{absent, empty} {
			if impl.RingOk(same) != soundRing(r) || impl.RingLag(same) != impl.RingLag(r) {
				t.Errorf("%v differs from %v", same, r)
			}
			checkPoll(t, same, 1)
			checkPoll(t, same, 0)
			for _, none := range [][]impl.Part{nil, {}} {
				checkPush(t, same, impl.Entry{Client: 1, Seq: 1, O: none})
				checkPush(t, same, impl.Entry{Client: 1, Seq: 1, O: emptied(op(keep(1), put(97), drop(2)), []int{})})
			}
		}
	}
}

// sparedRing returns a deep copy of r with spare capacity behind every slice,
// and a check that none of it was written.
func sparedRing(r impl.Ring) (impl.Ring, func() bool) {
	d, kept := sparedDoc(impl.Doc{List: r.List})
	r.List = d.List
	return r, kept
}

// spoilEntries overwrites every slice of l up to its capacity.
func spoilEntries(l []impl.Entry) {
	spoilDoc(impl.Doc{List: l})
}

// separateEntries reports whether no two slices of the lists share memory. It
// overwrites all of them, up to their capacity.
func separateEntries(lists ...[]impl.Entry) bool {
	var ops [][]impl.Part
	for _, l := range lists {
		for _, e := range l {
			ops = append(ops, e.O)
		}
	}
	if !separateOps(ops...) {
		return false
	}
	for i, l := range lists {
		for j := range l[:cap(l)] {
			l[:cap(l)][j] = impl.Entry{Client: i}
		}
	}
	for i, l := range lists {
		for _, e := range l[:cap(l)] {
			if e.Client != i {
				return false
			}
		}
	}
	return true
}

func TestP13RingArgumentsAreNotChanged(t *testing.T) {
	good, bad := waiting(8), badEntries()
	for i, own := range slices.Concat(ringCases(), badRings(), changedRings()) {
		for _, e := range []impl.Entry{good[i%len(good)], bad[i%len(bad)]} {
			r, kept := sparedRing(own)
			other, keptOther := sparedRing(own)
			o, keptOp := sparedOp(e.O)
			e.O = o
			impl.RingOk(r)
			impl.RingPush(r, e)
			for _, n := range []int{0, 1, 2, 6, math.MaxInt} {
				impl.RingPoll(r, n)
				impl.RingResync(r, n)
			}
			impl.RingLag(r)
			impl.RingSame(r, other)
			if !kept() || !keptOther() || !keptOp() {
				t.Errorf("an argument was changed: %v, %v", own, e)
			}
		}
	}
}

func TestP13RingPushSharesNothing(t *testing.T) {
	good, bad := waiting(8), badEntries()
	for i, own := range append(ringCases(), badRings()...) {
		for _, ownEntry := range []impl.Entry{good[i%len(good)], bad[i%len(bad)]} {
			r, kept := sparedRing(own)
			e := ownEntry
			o, keptOp := sparedOp(ownEntry.O)
			e.O = o
			want := modelPush(own, ownEntry)
			spoiled := impl.RingPush(r, e)
			got := impl.RingPush(r, e)
			if !separateEntries(spoiled.List) {
				t.Fatalf("RingPush(%v, %v): two slices share memory", own, ownEntry)
			}
			if !kept() || !keptOp() || !ringAlike(got, want) {
				t.Fatalf("RingPush(%v, %v) shares memory with an argument or with another result", own, ownEntry)
			}
			spoilEntries(r.List)
			spoilOp(o)
			if !ringAlike(got, want) {
				t.Fatalf("RingPush(%v, %v) depends on an argument after the call", own, ownEntry)
			}
		}
	}
}

func TestP13RingPollSharesNothing(t *testing.T) {
	for _, own := range append(ringCases(), badRings()...) {
		for n := range 8 {
			r, kept := sparedRing(own)
			want, list, _ := modelPoll(own, n)
			spoiled, spoiledList, _ := impl.RingPoll(r, n)
			got, l, _ := impl.RingPoll(r, n)
			if !separateEntries(spoiled.List, spoiledList) {
				t.Fatalf("RingPoll(%v, %d): two slices share memory", own, n)
			}
			if !kept() || !ringAlike(got, want) || !entriesAlike(l, list) {
				t.Fatalf("RingPoll(%v, %d) shares memory with the ring or with another result", own, n)
			}
			spoilEntries(r.List)
			if !ringAlike(got, want) || !entriesAlike(l, list) {
				t.Fatalf("RingPoll(%v, %d) depends on the ring after the call", own, n)
			}
		}
	}
}

// TestP13RingOfOneList is about entries that all have the same operation, which
// is also pushed.
func TestP13RingOfOneList(t *testing.T) {
	all := letters(6)
	e := impl.Entry{Client: 2, Seq: 3, O: op(put(all[1:3]...), drop(2), keep(1))}
	r := impl.Ring{Cap: 5, Next: 4, List: slices.Repeat([]impl.Entry{e}, 4)}
	want := slices.Repeat([]impl.Entry{{Client: 2, Seq: 3, O: op(put(98, 99), drop(2), keep(1))}}, 5)
	got := impl.RingPush(r, e)
	if !entriesAlike(got.List, want) || !separateEntries(got.List) {
		t.Errorf("RingPush: two slices share memory, or the entries are %v", got.List)
	}
	got, l, _ := impl.RingPoll(r, 2)
	if !entriesAlike(got.List, want[:2]) || !entriesAlike(l, want[:2]) || !separateEntries(got.List, l) {
		t.Errorf("RingPoll: two slices share memory, or the entries are %v, %v", got.List, l)
	}
	for _, n := range []int{0, 1} {
		bad := impl.Ring{Cap: 3, Next: 4, List: r.List}
		if got, _, _ := impl.RingPoll(bad, n); !separateEntries(got.List) {
			t.Error("RingPoll of a ring that is not valid: two slices share memory")
		}
	}
	if !slices.Equal(all, letters(6)) || !alike(e.O, want[0].O) {
		t.Errorf("the characters became %v, the operation %v", all, e.O)
	}
}
