package tests

import (
	"math"
	"math/rand"
	"slices"
	"testing"

	"loop.example/g00797/impl"
)

// placeCase has the results for every position written out: of Shift without
// and with after, and of Back.
type placeCase struct {
	o                    []impl.Part
	without, with, backs []int
	spans                []int
}

// plainPlaces are the cases in which each run has one part.
func plainPlaces() []placeCase {
	return []placeCase{
		{nil, []int{0}, []int{0}, []int{0}, nil},
		{op(keep(3)), []int{0, 1, 2, 3}, []int{0, 1, 2, 3}, []int{0, 1, 2, 3}, nil},
		{op(put(65, 66)), []int{0}, []int{2}, []int{0, 0, 0}, []int{0, 2}},
		{op(drop(3)), []int{0, 0, 0, 0}, []int{0, 0, 0, 0}, []int{3}, nil},
		{op(put(65), keep(2)), []int{0, 2, 3}, []int{1, 2, 3}, []int{0, 0, 1, 2}, []int{0, 1}},
		{op(keep(2), put(65)), []int{0, 1, 2}, []int{0, 1, 3}, []int{0, 1, 2, 2}, []int{2, 3}},
		{op(drop(1), keep(2)), []int{0, 0, 1, 2}, []int{0, 0, 1, 2}, []int{1, 2, 3}, nil},
		{op(keep(2), drop(1)), []int{0, 1, 2, 2}, []int{0, 1, 2, 2}, []int{0, 1, 3}, nil},
		{op(keep(1), put(65, 66), keep(1)), []int{0, 1, 4}, []int{0, 3, 4}, []int{0, 1, 1, 1, 2}, []int{1, 3}},
		{op(keep(1), drop(2), keep(1)), []int{0, 1, 1, 1, 2}, []int{0, 1, 1, 1, 2}, []int{0, 3, 4}, nil},
		{op(put(65), keep(1), put(66), keep(1), put(67)), []int{0, 2, 4}, []int{1, 3, 5}, []int{0, 0, 1, 1, 2, 2}, []int{0, 1, 2, 3, 4, 5}},
		{op(drop(1), keep(1), drop(1), keep(1), drop(1)), []int{0, 0, 1, 1, 2, 2}, []int{0, 0, 1, 1, 2, 2}, []int{1, 3, 5}, nil},
		{op(put(65), keep(1), drop(1), keep(1)), []int{0, 2, 2, 3}, []int{1, 2, 2, 3}, []int{0, 0, 2, 3}, []int{0, 1}},
		{op(drop(1), keep(1), put(65), keep(1)), []int{0, 0, 1, 3}, []int{0, 0, 2, 3}, []int{1, 2, 2, 3}, []int{1, 2}},
	}
}

// runPlaces are the cases with several parts in one run, some of them not
// normalized: all insertions of a run are at the beginning of it.
func runPlaces() []placeCase {
	return []placeCase{
		{op(put(65), drop(2)), []int{0, 1, 1}, []int{1, 1, 1}, []int{0, 2}, []int{0, 1}},
		{op(drop(2), put(65)), []int{0, 1, 1}, []int{1, 1, 1}, []int{0, 2}, []int{0, 1}},
		{op(drop(1), put(65), drop(1)), []int{0, 1, 1}, []int{1, 1, 1}, []int{0, 2}, []int{0, 1}},
		{op(keep(2), put(65, 66), drop(2), keep(1)), []int{0, 1, 2, 4, 4, 5}, []int{0, 1, 4, 4, 4, 5}, []int{0, 1, 2, 2, 4, 5}, []int{2, 4}},
		{op(keep(2), drop(2), put(65, 66), keep(1)), []int{0, 1, 2, 4, 4, 5}, []int{0, 1, 4, 4, 4, 5}, []int{0, 1, 2, 2, 4, 5}, []int{2, 4}},
		{op(drop(1), put(65), drop(1), put(66, 67), keep(1)), []int{0, 3, 3, 4}, []int{3, 3, 3, 4}, []int{0, 0, 0, 2, 3}, []int{0, 3}},
		{op(put(65), drop(1), put(66), keep(1)), []int{0, 2, 3}, []int{2, 2, 3}, []int{0, 0, 1, 2}, []int{0, 2}},
		{op(put(65), drop(1), keep(1), drop(2), put(66, 67), keep(1), put(68)), []int{0, 1, 2, 4, 4, 5}, []int{1, 1, 4, 4, 4, 6}, []int{0, 1, 2, 2, 4, 5, 5}, []int{0, 1, 2, 4, 5, 6}},
		{op(keep(1), keep(1), put(65), put(66), drop(1), drop(1)), []int{0, 1, 2, 4, 4}, []int{0, 1, 4, 4, 4}, []int{0, 1, 2, 2, 4}, []int{2, 4}},
		{op(keep(0), put(), drop(0)), []int{0}, []int{0}, []int{0}, nil},
		{op(keep(1), keep(0), put(65), put(), drop(0), put(66), keep(2)), []int{0, 1, 4, 5}, []int{0, 3, 4, 5}, []int{0, 1, 1, 1, 2, 3}, []int{1, 3}},
		{op(drop(1), keep(0), put(65), keep(1)), []int{0, 1, 2}, []int{1, 1, 2}, []int{0, 1, 2}, []int{0, 1}},
		{op(keep(1), drop(0), put(), keep(1)), []int{0, 1, 2}, []int{0, 1, 2}, []int{0, 1, 2}, nil},
		{op(put(65), keep(0), put(66)), []int{0}, []int{2}, []int{0, 0, 0}, []int{0, 2}},
	}
}

func placeCases() []placeCase {
	return append(plainPlaces(), runPlaces()...)
}

// fullPlaces are operations at the limits.
func fullPlaces() [][]impl.Part {
	full := numbered(impl.MaxText)
	half := impl.MaxText / 2
	return [][]impl.Part{
		op(keep(impl.MaxText)),
		op(drop(impl.MaxText)),
		op(put(full...)),
		op(put(full...), drop(impl.MaxText)),
		op(drop(impl.MaxText), put(full...)),
		op(drop(half), keep(half), put(full[:half]...)),
		op(put(full[:half]...), keep(half), drop(half)),
		op(keep(half), drop(half), put(full[:half]...)),
		op(keep(impl.MaxText-1), put(65), drop(1)),
		op(put(65), drop(1), keep(impl.MaxText-1)),
		slices.Repeat(op(put(65), keep(1)), half),
		slices.Repeat(op(keep(1), drop(1)), half),
		slices.Repeat(op(drop(1), put(65), keep(1)), half),
		slices.Repeat(op(drop(1), put(65), keep(0)), impl.MaxText),
		repeated(put(), impl.MaxParts),
		append(repeated(drop(0), impl.MaxParts-1), put(65)),
		append(op(put(65)), repeated(keep(0), impl.MaxParts-1)...),
	}
}

// countedShifts counts, for every position of an operation on n characters,
// what is before it in the new text: the retained ones of the characters before
// it in the old text, and what is inserted before them. The second list also
// counts what is inserted at the position itself, as Shift does with after.
func countedShifts(o []impl.Part, n int) ([]int, []int) {
	puts, drops := insertions(stepwiseNorm(o), n)
	var without, with []int
	count := 0
	for at := range n + 1 {
		without = append(without, count)
		count += len(puts[at])
		with = append(with, count)
		if at < n && !drops[at] {
			count++
		}
	}
	return without, with
}

// refusesPlace checks that neither Shift nor Back returns a position.
func refusesPlace(t *testing.T, o []impl.Part, at int) {
	t.Helper()
	refusesShift(t, o, at)
	refusesBack(t, o, at)
}

func refusesShift(t *testing.T, o []impl.Part, at int) {
	t.Helper()
	for _, after := range []bool{false, true} {
		if got, ok := impl.Shift(o, at, after); ok || got != 0 {
			t.Errorf("Shift(%v, %d, %v): %d %v", o, at, after, got, ok)
		}
	}
}

func refusesBack(t *testing.T, o []impl.Part, at int) {
	t.Helper()
	if got, ok := impl.Back(o, at); ok || got != 0 {
		t.Errorf("Back(%v, %d): %d %v", o, at, got, ok)
	}
}

// shiftedAll returns the results of Shift at every position of an operation on
// n characters.
func shiftedAll(t *testing.T, o []impl.Part, n int, after bool) []int {
	t.Helper()
	var l []int
	for at := range n + 1 {
		got, ok := impl.Shift(o, at, after)
		if !ok {
			t.Fatalf("Shift(%v, %d, %v) fails", o, at, after)
		}
		l = append(l, got)
	}
	return l
}

// checkShift checks all that the document says of Shift for a valid operation.
func checkShift(t *testing.T, o []impl.Part) {
	t.Helper()
	kept, puts, drops := lengths(o)
	from, to := kept+drops, kept+puts
	without, with := shiftedAll(t, o, from, false), shiftedAll(t, o, from, true)
	if first, second := countedShifts(o, from); !slices.Equal(without, first) || !slices.Equal(with, second) {
		t.Fatalf("Shift of %v: %v and %v, not %v and %v", o, without, with, first, second)
	}
	for at := range from + 1 {
		if with[at] < without[at] || at > 0 && without[at] < with[at-1] {
			t.Fatalf("Shift of %v is not in order at %d: %v and %v", o, at, without, with)
		}
	}
	if !slices.IsSorted(without) || !slices.IsSorted(with) || without[0] != 0 || with[from] != to {
		t.Fatalf("Shift of %v leaves the text or its order: %v and %v", o, without, with)
	}
	refusesShift(t, o, -1)
	refusesShift(t, o, from+1)
}

// checkBack compares Back with the results of Shift at every position.
func checkBack(t *testing.T, o []impl.Part) {
	t.Helper()
	kept, puts, drops := lengths(o)
	shifted := shiftedAll(t, o, kept+drops, false)
	for at := range kept + puts + 1 {
		got, ok := impl.Back(o, at)
		if !ok || got < 0 || got > kept+drops || shifted[got] > at {
			t.Fatalf("Back(%v, %d): %d %v", o, at, got, ok)
		}
		for _, place := range shifted[got+1:] {
			if place <= at {
				t.Fatalf("Back(%v, %d) is %d, with greater ones in %v", o, at, got, shifted)
			}
		}
	}
	refusesBack(t, o, -1)
	refusesBack(t, o, kept+puts+1)
}

// checkSpans looks for the inserted characters in the text.
func checkSpans(t *testing.T, o []impl.Part) {
	t.Helper()
	kept, _, drops := lengths(o)
	// The old text has no character in common with the inserted ones.
	text := effect(o, slices.Repeat([]int{-1}, kept+drops))
	spans := impl.Spans(o)
	for _, p := range stepwiseNorm(o) {
		if p.Kind != impl.PtPut {
			continue
		}
		if len(spans) < 2 || spans[0] < 0 || spans[1] < spans[0] || len(text) < spans[1] || !slices.Equal(text[spans[0]:spans[1]], p.Signs) {
			t.Fatalf("Spans(%v): %v", o, impl.Spans(o))
		}
		// An insertion must not be found again in the place of another one.
		for i := spans[0]; i < spans[1]; i++ {
			text[i] = -1
		}
		spans = spans[2:]
	}
	if len(spans) != 0 {
		t.Fatalf("Spans(%v): %v has more than the insertions", o, impl.Spans(o))
	}
}

func checkPlaces(t *testing.T, o []impl.Part) {
	t.Helper()
	checkShift(t, o)
	checkBack(t, o)
	checkSpans(t, o)
}

// sameCase checks the results that are written out in c for another operation.
func sameCase(t *testing.T, c placeCase, o []impl.Part) {
	t.Helper()
	without, with := shiftedAll(t, o, len(c.without)-1, false), shiftedAll(t, o, len(c.with)-1, true)
	if !slices.Equal(without, c.without) || !slices.Equal(with, c.with) {
		t.Errorf("Shift of %v: %v and %v, not %v and %v", o, without, with, c.without, c.with)
	}
	for at, want := range c.backs {
		if got, ok := impl.Back(o, at); !ok || got != want {
			t.Errorf("Back(%v, %d): %d %v, not %d", o, at, got, ok, want)
		}
	}
	refusesShift(t, o, len(c.without))
	refusesBack(t, o, len(c.backs))
	if got := impl.Spans(o); !slices.Equal(got, c.spans) {
		t.Errorf("Spans(%v): %v, not %v", o, got, c.spans)
	}
}

func TestP13Places(t *testing.T) {
	for _, c := range placeCases() {
		sameCase(t, c, c.o)
		checkPlaces(t, c.o)
	}
	for _, o := range fullPlaces() {
		checkPlaces(t, o)
	}
}

func TestP13PlacesOfNormalForms(t *testing.T) {
	for _, c := range placeCases() {
		sameCase(t, c, impl.OpNorm(c.o))
	}
	for _, o := range fullPlaces() {
		samePlaces(t, o, impl.OpNorm(o))
	}
}

// samePlaces checks that two operations with one effect move positions alike.
func samePlaces(t *testing.T, a []impl.Part, b []impl.Part) {
	t.Helper()
	kept, puts, drops := lengths(a)
	for _, after := range []bool{false, true} {
		if one, two := shiftedAll(t, a, kept+drops, after), shiftedAll(t, b, kept+drops, after); !slices.Equal(one, two) {
			t.Fatalf("Shift of %v and %v: %v and %v", a, b, one, two)
		}
	}
	for at := range kept + puts + 1 {
		one, okOne := impl.Back(a, at)
		two, okTwo := impl.Back(b, at)
		if !okOne || !okTwo || one != two {
			t.Fatalf("Back of %v and %v at %d: %d and %d", a, b, at, one, two)
		}
	}
	if !slices.Equal(impl.Spans(a), impl.Spans(b)) {
		t.Fatalf("Spans of %v and %v: %v and %v", a, b, impl.Spans(a), impl.Spans(b))
	}
}

// TestP13PlacesPartsWithoutEffect puts such parts at the beginning, in the
// middle and at the end of operations.
func TestP13PlacesPartsWithoutEffect(t *testing.T) {
	for _, c := range placeCases() {
		for at := range len(c.o) + 1 {
			for _, none := range withoutEffect() {
				sameCase(t, c, slices.Insert(slices.Clone(c.o), at, none...))
			}
		}
	}
}

// TestP13PlacesOfRunsInEveryOrder: wherever the deletions of a run are, its
// insertions are at its beginning.
func TestP13PlacesOfRunsInEveryOrder(t *testing.T) {
	want := placeCase{
		without: []int{0, 1, 5, 5, 5, 6, 7},
		with:    []int{0, 5, 5, 5, 5, 6, 7},
		backs:   []int{0, 1, 1, 1, 1, 4, 5, 6},
		spans:   []int{1, 5},
	}
	permuted(op(put(65), put(66, 67), put(68), drop(1), drop(2)), func(run []impl.Part) {
		o := slices.Concat(op(keep(1)), run, op(keep(2)))
		sameCase(t, want, o)
		samePlaces(t, o, impl.OpNorm(o))
	})
}

func TestP6PlacesOfSmallOps(t *testing.T) {
	smallOps(4, func(o []impl.Part) { checkPlaces(t, o) })
}

func TestP6PlacesOfRandomOps(t *testing.T) {
	r := rand.New(rand.NewSource(21))
	for range 40 {
		o := randomOp(r)
		checkPlaces(t, o)
		samePlaces(t, o, impl.OpNorm(o))
		n := r.Intn(impl.MaxText + 1)
		checkPlaces(t, randomOpOn(r, n))
		checkPlaces(t, padded(r, randomOpOn(r, n)))
	}
}

// checkNeighbours checks that a retained character is still next to the
// positions beside it: with after the one before it, without the one behind it.
func checkNeighbours(t *testing.T, o []impl.Part) {
	t.Helper()
	kept, _, drops := lengths(o)
	text := numbered(kept + drops)
	result := effect(o, text)
	for at, n := range text {
		now := slices.Index(result, n)
		if now < 0 {
			continue
		}
		if before, ok := impl.Shift(o, at, true); !ok || before != now {
			t.Fatalf("Shift(%v, %d, true) is %d, not before the character at %d", o, at, before, now)
		}
		if behind, ok := impl.Shift(o, at+1, false); !ok || behind != now+1 {
			t.Fatalf("Shift(%v, %d, false) is %d, not behind the character at %d", o, at+1, behind, now)
		}
	}
}

func TestP6PlacesMoveWithTheText(t *testing.T) {
	for _, c := range placeCases() {
		checkNeighbours(t, c.o)
	}
	smallOps(4, func(o []impl.Part) { checkNeighbours(t, o) })
	r := rand.New(rand.NewSource(22))
	for range 100 {
		n := r.Intn(impl.MaxText + 1)
		o := randomOpOn(r, n)
		for _, p := range o {
			// None of the inserted characters is one of the text.
			copy(p.Signs, letters(len(p.Signs)))
		}
		checkNeighbours(t, o)
	}
}

// checkShifts checks Shift at the positions of want.
func checkShifts(t *testing.T, o []impl.Part, after bool, want map[int]int) {
	t.Helper()
	for at, place := range want {
		if got, ok := impl.Shift(o, at, after); !ok || got != place {
			t.Errorf("Shift(%v, %d, %v): %d %v, not %d", o, at, after, got, ok, place)
		}
	}
}

// checkBacks checks Back at the positions of want.
func checkBacks(t *testing.T, o []impl.Part, want map[int]int) {
	t.Helper()
	for at, place := range want {
		if got, ok := impl.Back(o, at); !ok || got != place {
			t.Errorf("Back(%v, %d): %d %v, not %d", o, at, got, ok, place)
		}
	}
}

// TestP6PlacesAroundAPart asks for the positions just before, at and just
// behind the beginning and the end of a part of n characters.
func TestP6PlacesAroundAPart(t *testing.T) {
	for _, n := range []int{1, 2, 3, 50, impl.MaxText - 10} {
		inserts := op(keep(5), put(letters(n)...), keep(5))
		checkShifts(t, inserts, false, map[int]int{4: 4, 5: 5, 6: 6 + n, 9: 9 + n, 10: 10 + n})
		checkShifts(t, inserts, true, map[int]int{4: 4, 5: 5 + n, 6: 6 + n, 9: 9 + n, 10: 10 + n})
		checkBacks(t, inserts, map[int]int{4: 4, 5: 5, 6: 5, 4 + n: 5, 5 + n: 5, 6 + n: 6, 10 + n: 10})
		deletes := op(keep(5), drop(n), keep(5))
		for _, after := range []bool{false, true} {
			checkShifts(t, deletes, after, map[int]int{4: 4, 5: 5, 6: 5, 4 + n: 5, 5 + n: 5, 6 + n: 6, 10 + n: 10})
		}
		checkBacks(t, deletes, map[int]int{4: 4, 5: 5 + n, 6: 6 + n, 10: 10 + n})
		retains := op(put(65), keep(n), drop(1), put(66))
		checkShifts(t, retains, false, map[int]int{0: 0, 1: 2, n: n + 1, n + 1: n + 2})
		checkShifts(t, retains, true, map[int]int{0: 1, n - 1: n, n: n + 2, n + 1: n + 2})
		checkBacks(t, retains, map[int]int{0: 0, 1: 0, n: n - 1, n + 1: n, n + 2: n + 1})
	}
}

// TestP6PlacesPastSeveral moves positions past one operation after the other:
// they stay within each text and in their order.
func TestP6PlacesPastSeveral(t *testing.T) {
	ops, texts := chain()
	for _, after := range []bool{false, true} {
		var places []int
		for at := range len(texts[0]) + 1 {
			places = append(places, at)
		}
		for i, o := range ops {
			for k, at := range places {
				got, ok := impl.Shift(o, at, after)
				if !ok || got < 0 || got > len(texts[i+1]) {
					t.Fatalf("Shift(%v, %d, %v): %d %v", o, at, after, got, ok)
				}
				places[k] = got
			}
			if !slices.IsSorted(places) {
				t.Errorf("behind %v the positions are %v", o, places)
			}
		}
	}
}

// farPlaces are no positions in any text.
func farPlaces() []int {
	return []int{-1, -2, -impl.MaxText, math.MinInt, impl.MaxText + 1, 1 << 32, 1<<32 + 1, math.MaxInt}
}

func TestP13PlacesOutsideTheText(t *testing.T) {
	ops := fullPlaces()
	for _, c := range placeCases() {
		ops = append(ops, c.o)
	}
	for _, o := range ops {
		for _, at := range farPlaces() {
			refusesPlace(t, o, at)
		}
	}
	// Each of the two looks at the length of its own text.
	for at := 1; at <= impl.MaxText; at++ {
		refusesShift(t, op(put(numbered(impl.MaxText)...)), at)
		refusesBack(t, op(drop(impl.MaxText)), at)
	}
}

func TestP13PlacesOfBadOps(t *testing.T) {
	for _, o := range notOk() {
		for _, at := range append(farPlaces(), 0, 1, 2, 4, impl.MaxText) {
			refusesPlace(t, o, at)
		}
		if got := impl.Spans(o); len(got) != 0 {
			t.Errorf("Spans(%v): %v", o, got)
		}
	}
}

func TestP13SpansOfOneInsertion(t *testing.T) {
	for n := range impl.MaxText {
		for _, at := range []int{0, n / 2, n} {
			o := op(keep(at), put(letters(impl.MaxText-n)...), keep(n-at))
			if got := impl.Spans(o); !slices.Equal(got, []int{at, at + impl.MaxText - n}) {
				t.Errorf("Spans(%v): %v", o, got)
			}
		}
	}
}

// checkMade checks a result of PutAt or DropAt against the parts that it is
// made of, if these are an operation that is OpOk.
func checkMade(t *testing.T, got []impl.Part, ok bool, parts []impl.Part) {
	t.Helper()
	if ok != impl.OpOk(parts) || ok && (!impl.IsNorm(got) || !alike(got, stepwiseNorm(parts))) || !ok && len(got) != 0 {
		t.Fatalf("%v %v, not the normal form of %v", got, ok, parts)
	}
}

func checkPutAt(t *testing.T, n int, at int, l []int) {
	t.Helper()
	got, ok := impl.PutAt(n, at, l)
	checkMade(t, got, ok, op(keep(at), put(l...), keep(n-at)))
}

func checkDropAt(t *testing.T, n int, at int, many int) {
	t.Helper()
	got, ok := impl.DropAt(n, at, many)
	checkMade(t, got, ok, op(keep(at), drop(many), keep(n-at-many)))
}

func refusesPutAt(t *testing.T, n int, at int, l []int) {
	t.Helper()
	if got, ok := impl.PutAt(n, at, l); ok || len(got) != 0 {
		t.Fatalf("PutAt(%d, %d, %v): %v %v", n, at, l, got, ok)
	}
}

func refusesDropAt(t *testing.T, n int, at int, many int) {
	t.Helper()
	if got, ok := impl.DropAt(n, at, many); ok || len(got) != 0 {
		t.Fatalf("DropAt(%d, %d, %d): %v %v", n, at, many, got, ok)
	}
}

// putCase has the result of PutAt written out.
type putCase struct {
	n, at int
	l     []int
	want  []impl.Part
}

func putCases() []putCase {
	full := numbered(impl.MaxText)
	return []putCase{
		{0, 0, nil, nil},
		{0, 0, []int{}, nil},
		{0, 0, []int{65}, op(put(65))},
		{3, 0, nil, op(keep(3))},
		{3, 1, nil, op(keep(3))},
		{3, 3, nil, op(keep(3))},
		{3, 0, []int{65}, op(put(65), keep(3))},
		{3, 1, []int{65}, op(keep(1), put(65), keep(2))},
		{3, 2, []int{65, 66}, op(keep(2), put(65, 66), keep(1))},
		{3, 3, []int{65, 66}, op(keep(3), put(65, 66))},
		{1, 1, []int{0, 55295, 57344, impl.MaxSign}, op(keep(1), put(0, 55295, 57344, impl.MaxSign))},
		{0, 0, full, op(put(full...))},
		{1, 0, full[1:], op(put(full[1:]...), keep(1))},
		{1, 1, full[1:], op(keep(1), put(full[1:]...))},
		{100, 50, full[:100], op(keep(50), put(full[:100]...), keep(50))},
		{199, 0, []int{65}, op(put(65), keep(199))},
		{199, 100, []int{65}, op(keep(100), put(65), keep(99))},
		{199, 199, []int{65}, op(keep(199), put(65))},
		{200, 0, nil, op(keep(200))},
		{200, 7, []int{}, op(keep(200))},
		{200, 200, nil, op(keep(200))},
	}
}

// dropCase has the result of DropAt written out.
type dropCase struct {
	n, at, many int
	want        []impl.Part
}

func dropCases() []dropCase {
	return []dropCase{
		{0, 0, 0, nil},
		{3, 0, 0, op(keep(3))},
		{3, 1, 0, op(keep(3))},
		{3, 3, 0, op(keep(3))},
		{3, 0, 1, op(drop(1), keep(2))},
		{3, 1, 1, op(keep(1), drop(1), keep(1))},
		{3, 2, 1, op(keep(2), drop(1))},
		{3, 1, 2, op(keep(1), drop(2))},
		{3, 0, 3, op(drop(3))},
		{1, 0, 1, op(drop(1))},
		{200, 0, 200, op(drop(200))},
		{200, 0, 199, op(drop(199), keep(1))},
		{200, 1, 199, op(keep(1), drop(199))},
		{200, 199, 1, op(keep(199), drop(1))},
		{200, 100, 50, op(keep(100), drop(50), keep(50))},
		{200, 100, 0, op(keep(200))},
		{200, 200, 0, op(keep(200))},
	}
}

func TestP13PutAtAndDropAt(t *testing.T) {
	for _, c := range putCases() {
		if got, ok := impl.PutAt(c.n, c.at, c.l); !ok || !alike(got, c.want) {
			t.Errorf("PutAt(%d, %d, %v): %v %v, not %v", c.n, c.at, c.l, got, ok, c.want)
		}
		checkPutAt(t, c.n, c.at, c.l)
	}
	for _, c := range dropCases() {
		if got, ok := impl.DropAt(c.n, c.at, c.many); !ok || !alike(got, c.want) {
			t.Errorf("DropAt(%d, %d, %d): %v %v, not %v", c.n, c.at, c.many, got, ok, c.want)
		}
		checkDropAt(t, c.n, c.at, c.many)
	}
}

// TestP13PutAtEveryPlace inserts nothing, one character, as many as just fit,
// and one more, at every position of texts of every length.
func TestP13PutAtEveryPlace(t *testing.T) {
	for n := range impl.MaxText + 3 {
		room := max(0, impl.MaxText-n)
		for at := range n + 1 {
			for _, many := range []int{0, 1, room, room + 1} {
				checkPutAt(t, n, at, letters(many))
			}
		}
		for _, l := range [][]int{nil, {65}, letters(room)} {
			refusesPutAt(t, n, -1, l)
			refusesPutAt(t, n, n+1, l)
		}
	}
}

// TestP13DropAtEveryPlace deletes every number of characters, up to one more
// than there are, at every position of texts of several lengths.
func TestP13DropAtEveryPlace(t *testing.T) {
	for _, n := range []int{0, 1, 2, 3, 10, 99, 199, 200, 201, 202} {
		for at := range n + 1 {
			for many := range n - at + 1 {
				checkDropAt(t, n, at, many)
			}
			refusesDropAt(t, n, at, n-at+1)
			refusesDropAt(t, n, at, -1)
		}
		for many := range n + 2 {
			refusesDropAt(t, n, -1, many)
			refusesDropAt(t, n, n+1, many)
		}
		refusesDropAt(t, n, n+1, -1)
	}
}

func TestP13PutAtAndDropAtOutsideTheirLimits(t *testing.T) {
	far := farPlaces()
	for _, n := range far {
		for _, at := range append(far, 0, 1, 100, impl.MaxText, n-1, n, n+1) {
			for _, l := range [][]int{nil, {65}, numbered(impl.MaxText)} {
				refusesPutAt(t, n, at, l)
			}
			for _, many := range append(far, 0, 1, impl.MaxText, n, n-at, n-at+1, at-n) {
				refusesDropAt(t, n, at, many)
			}
		}
	}
	for _, n := range []int{0, 1, 3, impl.MaxText} {
		for _, bad := range far {
			refusesPutAt(t, n, bad, nil)
			refusesPutAt(t, n, bad, []int{65})
			refusesDropAt(t, n, bad, 0)
			refusesDropAt(t, n, bad, 1)
			for at := range n + 1 {
				refusesDropAt(t, n, at, bad)
			}
		}
	}
}

// TestP13PutAtOfBadTexts inserts lists that are too long or have an element
// that is no character.
func TestP13PutAtOfBadTexts(t *testing.T) {
	for _, l := range badTexts() {
		for _, n := range []int{0, 1, 3, impl.MaxText - len(l), impl.MaxText} {
			for _, at := range []int{-1, 0, n / 2, n, n + 1} {
				refusesPutAt(t, n, at, l)
			}
		}
	}
}

// TestP6PutAtThenDropAt inserts a text and deletes it again, and finds the
// positions around it.
func TestP6PutAtThenDropAt(t *testing.T) {
	for _, n := range []int{0, 1, 2, 5, 50, 199, 200} {
		text := numbered(n)
		for at := range n + 1 {
			for _, many := range []int{0, 1, 2, impl.MaxText - n} {
				l := letters(min(many, impl.MaxText-n))
				there, ok := impl.PutAt(n, at, l)
				between, applied := impl.Apply(there, text)
				if want := slices.Concat(text[:at], l, text[at:]); !ok || !applied || !slices.Equal(between, want) {
					t.Fatalf("PutAt(%d, %d, %v) leads to %v %v %v", n, at, l, between, ok, applied)
				}
				back, ok := impl.DropAt(n+len(l), at, len(l))
				if got, applied := impl.Apply(back, between); !ok || !applied || !slices.Equal(got, text) {
					t.Fatalf("DropAt(%d, %d, %d) leads to %v %v %v", n+len(l), at, len(l), got, ok, applied)
				}
				checkAround(t, there, at, len(l))
			}
		}
	}
}

// checkAround checks the positions at an insertion of many characters.
func checkAround(t *testing.T, o []impl.Part, at int, many int) {
	t.Helper()
	without, okWithout := impl.Shift(o, at, false)
	with, okWith := impl.Shift(o, at, true)
	back, okBack := impl.Back(o, at+many)
	if !okWithout || !okWith || !okBack || without != at || with != at+many || back != at {
		t.Fatalf("positions around %d of %v: %d, %d and %d", at, o, without, with, back)
	}
	var want []int
	if many > 0 {
		want = []int{at, at + many}
	}
	if got := impl.Spans(o); !slices.Equal(got, want) {
		t.Fatalf("Spans(%v): %v", o, got)
	}
}

func TestP13PlacesNilAndEmptyAreEqual(t *testing.T) {
	for _, c := range placeCases() {
		for _, none := range [][]int{nil, {}} {
			sameCase(t, c, emptied(c.o, none))
		}
	}
	for _, o := range [][]impl.Part{nil, {}} {
		sameCase(t, placeCases()[0], o)
	}
	for n := range impl.MaxText + 1 {
		for _, none := range [][]int{nil, {}} {
			if got, ok := impl.PutAt(n, n/2, none); !ok || !alike(got, stepwiseNorm(op(keep(n)))) {
				t.Errorf("PutAt(%d, %d) of nothing: %v %v", n, n/2, got, ok)
			}
		}
	}
}

func TestP13PlacesArgumentsAreNotChanged(t *testing.T) {
	ops := append(fullPlaces(), notOk()...)
	for _, c := range placeCases() {
		ops = append(ops, c.o)
	}
	for _, own := range ops {
		o, kept := sparedOp(own)
		for _, at := range []int{-1, 0, 1, 2, impl.MaxText} {
			impl.Shift(o, at, false)
			impl.Shift(o, at, true)
			impl.Back(o, at)
		}
		impl.Spans(o)
		if !kept() {
			t.Errorf("an argument was changed: %v", own)
		}
	}
	for _, own := range append(badTexts(), nil, letters(1), letters(5), numbered(impl.MaxText)) {
		l, kept := spared(own)
		for _, n := range []int{-1, 0, 1, 5, impl.MaxText} {
			impl.PutAt(n, 0, l)
			impl.PutAt(n, n, l)
			impl.PutAt(n, n+1, l)
		}
		if !kept() {
			t.Errorf("PutAt changed %v", own)
		}
	}
}

func TestP13PlacesResultsShareNothing(t *testing.T) {
	for _, c := range placeCases() {
		o, kept := sparedOp(c.o)
		spans := impl.Spans(o)
		if !separate(impl.Spans(o), impl.Spans(o)) || !kept() || !slices.Equal(spans, c.spans) {
			t.Errorf("Spans(%v) shares memory with its argument or with another result", c.o)
		}
		spoilOp(o)
		if !slices.Equal(spans, c.spans) {
			t.Errorf("Spans(%v) depends on its argument after the call", c.o)
		}
	}
	for _, c := range putCases() {
		l, kept := spared(c.l)
		spoiled, _ := impl.PutAt(c.n, c.at, l)
		o, _ := impl.PutAt(c.n, c.at, l)
		spoilOp(spoiled)
		if !kept() || !alike(o, c.want) {
			t.Errorf("PutAt(%d, %d, %v) shares memory with its argument or with another result", c.n, c.at, c.l)
		}
		spoil(l)
		if !alike(o, c.want) {
			t.Errorf("PutAt(%d, %d, %v) depends on its argument after the call", c.n, c.at, c.l)
		}
	}
	for _, c := range dropCases() {
		spoiled, _ := impl.DropAt(c.n, c.at, c.many)
		o, _ := impl.DropAt(c.n, c.at, c.many)
		spoilOp(spoiled)
		if !alike(o, c.want) {
			t.Errorf("two results of DropAt(%d, %d, %d) share memory", c.n, c.at, c.many)
		}
	}
}
