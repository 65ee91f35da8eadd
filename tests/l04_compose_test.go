package tests

import (
	"math"
	"math/rand"
	"slices"
	"testing"

	"loop.example/g00797/impl"
)

// composeCase has the composition of a and b written out.
type composeCase struct {
	a, b, want []impl.Part
}

// oneSided are the cases in which a deletes or b inserts: the other operation
// does not advance. Among them are parts that are left in only one of the two.
func oneSided() []composeCase {
	return []composeCase{
		{op(drop(1), keep(2)), op(keep(2)), op(drop(1), keep(2))},
		{op(drop(2), keep(2)), op(keep(2)), op(drop(2), keep(2))},
		{op(drop(3), keep(2)), op(keep(2)), op(drop(3), keep(2))},
		{op(drop(1), keep(2)), op(drop(2)), op(drop(3))},
		{op(drop(2), keep(2)), op(drop(2)), op(drop(4))},
		{op(drop(3), keep(2)), op(drop(2)), op(drop(5))},
		{op(drop(1), keep(1)), op(put(97, 98), keep(1)), op(put(97, 98), drop(1), keep(1))},
		{op(drop(2), keep(1)), op(put(97, 98), keep(1)), op(put(97, 98), drop(2), keep(1))},
		{op(drop(3), keep(1)), op(put(97, 98), keep(1)), op(put(97, 98), drop(3), keep(1))},
		{op(drop(1), put(65)), op(put(97), keep(1), put(98)), op(put(97, 65, 98), drop(1))},
		{op(keep(1)), op(put(97, 98), keep(1)), op(put(97, 98), keep(1))},
		{op(keep(2)), op(put(97, 98), keep(2)), op(put(97, 98), keep(2))},
		{op(keep(3)), op(put(97, 98), keep(3)), op(put(97, 98), keep(3))},
		{op(keep(2)), op(put(97), drop(2)), op(put(97), drop(2))},
		{op(put(65)), op(put(97, 98), keep(1)), op(put(97, 98, 65))},
		{op(put(65, 66)), op(put(97, 98), keep(2)), op(put(97, 98, 65, 66))},
		{op(put(65, 66, 67)), op(put(97, 98), keep(3)), op(put(97, 98, 65, 66, 67))},
		{op(put(65, 66)), op(put(97), drop(2)), op(put(97))},
		{op(put(65, 66)), op(drop(2), put(97)), op(put(97))},
		{op(put(65, 66)), op(keep(1), put(97), keep(1)), op(put(65, 97, 66))},
		{op(put(65, 66)), op(keep(2), put(97)), op(put(65, 66, 97))},
		{op(keep(2)), op(keep(1), put(97), keep(1)), op(keep(1), put(97), keep(1))},
		{op(keep(2)), op(keep(2), put(97)), op(keep(2), put(97))},
		{op(keep(2), drop(1)), op(keep(2)), op(keep(2), drop(1))},
		{op(keep(2), drop(1)), op(keep(2), put(97)), op(keep(2), put(97), drop(1))},
		{nil, nil, nil},
		{op(drop(3)), nil, op(drop(3))},
		{nil, op(put(97, 98)), op(put(97, 98))},
		{op(drop(2)), op(put(97)), op(put(97), drop(2))},
		{op(drop(1), drop(2)), op(put(97), put(98)), op(put(97, 98), drop(3))},
		{op(drop(1), keep(0), drop(1)), nil, op(drop(2))},
		{nil, op(put(97), drop(0), put(98)), op(put(97, 98))},
	}
}

// bothSided are the cases in which both operations advance, with the part of a
// shorter than, as long as and longer than the part of b.
func bothSided() []composeCase {
	return []composeCase{
		{op(keep(1), drop(1), keep(1)), op(keep(2)), op(keep(1), drop(1), keep(1))},
		{op(keep(2)), op(keep(2)), op(keep(2))},
		{op(keep(3)), op(keep(2), drop(1)), op(keep(2), drop(1))},
		{op(put(65), keep(1)), op(keep(2)), op(put(65), keep(1))},
		{op(put(65, 66)), op(keep(2)), op(put(65, 66))},
		{op(put(65, 66, 67)), op(keep(2), drop(1)), op(put(65, 66))},
		{op(put(65, 66, 67)), op(keep(1), drop(1), keep(1)), op(put(65, 67))},
		{op(keep(1), put(65)), op(drop(2)), op(drop(1))},
		{op(keep(2)), op(drop(2)), op(drop(2))},
		{op(keep(3)), op(drop(2), keep(1)), op(drop(2), keep(1))},
		{op(put(65), keep(1)), op(drop(2)), op(drop(1))},
		{op(put(65, 66)), op(drop(2)), nil},
		{op(put(65, 66, 67)), op(drop(2), keep(1)), op(put(67))},
		{op(put(65), put(66), put(67)), op(drop(2), keep(1)), op(put(67))},
		{op(keep(1), keep(1), keep(1)), op(keep(1), drop(1), keep(1)), op(keep(1), drop(1), keep(1))},
	}
}

// joined are the cases in which parts come together in one run, or are
// combined, only in the composition.
func joined() []composeCase {
	return []composeCase{
		{op(keep(1), put(65), drop(1)), op(drop(1), keep(1), put(66)), op(put(65, 66), drop(2))},
		{op(keep(1), put(65), keep(1)), op(keep(1), drop(1), keep(1)), op(keep(2))},
		{op(put(65), keep(1), put(66)), op(keep(1), drop(1), keep(1)), op(put(65, 66), drop(1))},
		{op(drop(1), keep(1), drop(1)), op(drop(1)), op(drop(3))},
		{op(drop(1), keep(1), put(65)), op(drop(1), keep(1)), op(put(65), drop(2))},
		{op(keep(1), drop(1), keep(1)), op(keep(1), put(97), keep(1)), op(keep(1), put(97), drop(1), keep(1))},
		{op(keep(1), drop(1), keep(1)), op(drop(1), put(97), drop(1)), op(put(97), drop(3))},
		{op(keep(1), put(65), drop(1), keep(1)), op(keep(1), drop(1), put(97), keep(1)), op(keep(1), put(97), drop(1), keep(1))},
		{op(keep(3)), op(drop(1), put(97), drop(1), put(98), keep(1)), op(put(97, 98), drop(2), keep(1))},
		{op(put(65), keep(2)), op(drop(1), keep(2)), op(keep(2))},
		{op(keep(2), put(65)), op(keep(2), drop(1)), op(keep(2))},
		{op(put(0, 55295)), op(keep(1), put(impl.MaxSign), keep(1), put(57344)), op(put(0, impl.MaxSign, 55295, 57344))},
	}
}

// composedFull are the cases at the limits of operations.
func composedFull() []composeCase {
	full, other := numbered(impl.MaxText), letters(impl.MaxText)
	return []composeCase{
		{op(keep(impl.MaxText)), op(keep(impl.MaxText)), op(keep(impl.MaxText))},
		{op(drop(impl.MaxText), put(full...)), op(drop(impl.MaxText), put(other...)), op(put(other...), drop(impl.MaxText))},
		{op(put(full...), drop(impl.MaxText)), op(put(other...), drop(impl.MaxText)), op(put(other...), drop(impl.MaxText))},
		{op(drop(impl.MaxText), put(full...)), op(keep(impl.MaxText)), op(put(full...), drop(impl.MaxText))},
		{op(drop(impl.MaxText)), op(put(other...)), op(put(other...), drop(impl.MaxText))},
		{op(put(full...)), op(drop(impl.MaxText)), nil},
		{op(put(full...)), op(keep(impl.MaxText-1), put(97), drop(1)), op(put(append(slices.Clone(full[:impl.MaxText-1]), 97)...))},
		{slices.Repeat(op(drop(1), put(65), keep(0)), impl.MaxText), slices.Repeat(op(drop(1), put(97), keep(0)), impl.MaxText), op(put(slices.Repeat([]int{97}, impl.MaxText)...), drop(impl.MaxText))},
		{slices.Repeat(op(put(65), put(), drop(1)), impl.MaxText), slices.Repeat(op(drop(0), keep(1), put()), impl.MaxText), op(put(slices.Repeat([]int{65}, impl.MaxText)...), drop(impl.MaxText))},
		{slices.Repeat(op(keep(1), keep(0), drop(0)), impl.MaxText), slices.Repeat(op(put(), put(97), drop(1)), impl.MaxText), op(put(slices.Repeat([]int{97}, impl.MaxText)...), drop(impl.MaxText))},
		{slices.Repeat(op(keep(1), put(65), drop(1)), impl.MaxText/2), slices.Repeat(op(keep(1), drop(1), put(97)), impl.MaxText/2), slices.Repeat(op(keep(1), put(97), drop(1)), impl.MaxText/2)},
		{repeated(drop(0), impl.MaxParts), repeated(put(), impl.MaxParts), nil},
		{repeated(keep(0), impl.MaxParts), repeated(drop(0), impl.MaxParts), nil},
		{append(repeated(drop(0), impl.MaxParts-1), keep(1)), append(repeated(put(), impl.MaxParts-1), keep(1)), op(keep(1))},
		{append(op(put(65)), repeated(put(), impl.MaxParts-1)...), append(op(keep(1)), repeated(keep(0), impl.MaxParts-1)...), op(put(65))},
	}
}

func composeCases() []composeCase {
	return slices.Concat(oneSided(), bothSided(), joined(), composedFull())
}

// singles returns the parts of o cut into single characters.
func singles(o []impl.Part) []impl.Part {
	var l []impl.Part
	for _, p := range o {
		for range p.N {
			l = append(l, impl.Part{Kind: p.Kind, N: 1})
		}
		for _, n := range p.Signs {
			l = append(l, put(n))
		}
	}
	return l
}

// stepwiseCompose follows the document's rules character by character.
func stepwiseCompose(a []impl.Part, b []impl.Part) []impl.Part {
	var l []impl.Part
	a, b = singles(a), singles(b)
	for len(a)+len(b) > 0 {
		switch {
		case len(a) > 0 && a[0].Kind == impl.PtDrop:
			l, a = append(l, a[0]), a[1:]
		case len(b) > 0 && b[0].Kind == impl.PtPut:
			l, b = append(l, b[0]), b[1:]
		default:
			if b[0].Kind == impl.PtKeep {
				l = append(l, a[0])
			} else if a[0].Kind == impl.PtKeep {
				l = append(l, b[0])
			}
			a, b = a[1:], b[1:]
		}
	}
	return stepwiseNorm(l)
}

// changed returns o with all its characters greater by more.
func changed(o []impl.Part, more int) []impl.Part {
	var l []impl.Part
	for _, p := range o {
		q := impl.Part{Kind: p.Kind, N: p.N}
		for _, n := range p.Signs {
			q.Signs = append(q.Signs, n+more)
		}
		l = append(l, q)
	}
	return l
}

// checkCompose checks all that the document says of the composition of a and
// b, operations that fit.
func checkCompose(t *testing.T, a []impl.Part, b []impl.Part) []impl.Part {
	t.Helper()
	o, ok := impl.Compose(a, b)
	if want := stepwiseCompose(a, b); !ok || !alike(o, want) {
		t.Fatalf("Compose(%v, %v): %v %v, not %v", a, b, o, ok, want)
	}
	if !impl.OpOk(o) || !impl.IsNorm(o) || impl.OpFrom(o) != impl.OpFrom(a) || impl.OpTo(o) != impl.OpTo(b) {
		t.Fatalf("Compose(%v, %v) is not normal or of other lengths: %v", a, b, o)
	}
	text := numbered(impl.OpFrom(a))
	between, _ := impl.Apply(a, text)
	want, _ := impl.Apply(b, between)
	if got, ok := impl.Apply(o, text); !ok || !slices.Equal(got, want) || !slices.Equal(got, effect(b, effect(a, text))) {
		t.Fatalf("Compose(%v, %v) leads to %v %v, not %v", a, b, got, ok, want)
	}
	return o
}

// refusesCompose checks that a and b have no composition.
func refusesCompose(t *testing.T, a []impl.Part, b []impl.Part) {
	t.Helper()
	if got, ok := impl.Compose(a, b); ok || len(got) != 0 {
		t.Errorf("Compose(%v, %v): %v %v", a, b, got, ok)
	}
}

func TestP13Compose(t *testing.T) {
	for _, c := range composeCases() {
		if got, ok := impl.Compose(c.a, c.b); !ok || !alike(got, c.want) {
			t.Errorf("Compose(%v, %v): %v %v, not %v", c.a, c.b, got, ok, c.want)
		}
		checkCompose(t, c.a, c.b)
	}
}

// TestP13ComposeEveryPairOfNextParts lets parts of all kinds and of several
// lengths meet, behind and before other parts of both operations.
func TestP13ComposeEveryPairOfNextParts(t *testing.T) {
	for n := range 5 {
		for m := range 5 {
			for _, p := range op(keep(n), put(numbered(n)...), drop(n)) {
				for _, q := range op(keep(m), put(letters(m)...), drop(m)) {
					a, b := fitted(op(p), op(q))
					checkCompose(t, a, b)
					a, b = fitted(op(keep(2), p), op(keep(2), q))
					checkCompose(t, a, b)
					a, b = fitted(op(put(65, 66), p), op(drop(1), put(67), keep(1), q))
					checkCompose(t, a, b)
				}
			}
		}
	}
}

// fitted returns a and b, of which the one with fewer characters in the text
// between them has got parts of several kinds for the others.
func fitted(a []impl.Part, b []impl.Part) ([]impl.Part, []impl.Part) {
	kept, puts, _ := lengths(a)
	wanted, _, drops := lengths(b)
	for more := kept + puts - wanted - drops; more != 0; {
		switch {
		case more == -1:
			a, more = append(a, drop(1), put(70)), 0
		case more < 0:
			a, more = append(a, drop(1), put(68), keep(1)), more+2
		case more == 1:
			b, more = append(b, put(71), drop(1)), 0
		default:
			b, more = append(b, drop(1), put(69), keep(1)), more-2
		}
	}
	return a, b
}

// TestP13ComposePartsWithoutEffect puts such parts at the beginning, in the
// middle and at the end of either operation.
func TestP13ComposePartsWithoutEffect(t *testing.T) {
	check := func(a []impl.Part, b []impl.Part, want []impl.Part) {
		if got, ok := impl.Compose(a, b); !ok || !alike(got, want) {
			t.Errorf("Compose(%v, %v): %v %v, not %v", a, b, got, ok, want)
		}
	}
	for _, c := range slices.Concat(oneSided(), bothSided(), joined()) {
		for _, none := range withoutEffect() {
			for i := range len(c.a) + 1 {
				a := slices.Insert(slices.Clone(c.a), i, none...)
				check(a, c.b, c.want)
				for j := range len(c.b) + 1 {
					b := slices.Insert(slices.Clone(c.b), j, none...)
					check(c.a, b, c.want)
					check(a, b, c.want)
				}
			}
		}
	}
}

// opsByFrom returns the operations of smallOps by their OpFrom.
func opsByFrom(most int) map[int][][]impl.Part {
	all := map[int][][]impl.Part{}
	smallOps(most, func(o []impl.Part) {
		kept, _, drops := lengths(o)
		all[kept+drops] = append(all[kept+drops], o)
	})
	return all
}

func TestP13ComposeSmallOps(t *testing.T) {
	seconds := opsByFrom(3)
	smallOps(3, func(a []impl.Part) {
		kept, puts, _ := lengths(a)
		for _, b := range seconds[kept+puts] {
			checkCompose(t, a, changed(b, -32))
		}
	})
}

// TestP13ComposeNeedsTheLength composes operations of all lengths, so that in
// many pairs OpTo of the first is one less or one more than OpFrom of the second.
func TestP13ComposeNeedsTheLength(t *testing.T) {
	for n := range impl.MaxText + 1 {
		a := op(put(letters(n/2)...), drop(impl.MaxText-n), keep(n-n/2))
		for m := range impl.MaxText + 1 {
			got, ok := impl.Compose(a, op(drop(m/3), put(97), keep(m-m/3-m/4), drop(m/4)))
			if ok != (n == m) || !ok && len(got) != 0 {
				t.Fatalf("OpTo %d, OpFrom %d: %v %v", n, m, got, ok)
			}
		}
	}
}

func TestP13ComposeOfMisfits(t *testing.T) {
	for _, c := range composeCases() {
		n := impl.OpFrom(c.b)
		if n < impl.MaxText {
			refusesCompose(t, c.a, op(keep(n+1)))
			refusesCompose(t, c.a, op(put(97), drop(n+1)))
			refusesCompose(t, op(put(letters(n+1)...)), c.b)
			refusesCompose(t, op(drop(n), keep(n+1)), c.b)
		}
		if n > 0 {
			refusesCompose(t, c.a, op(keep(n-1)))
			refusesCompose(t, c.a, op(put(97), drop(n-1)))
			refusesCompose(t, op(put(letters(n-1)...)), c.b)
			refusesCompose(t, op(keep(n-1), drop(1)), c.b)
		}
	}
}

// TestP13ComposeOfBadOps composes operations that are not OpOk with others, of
// which some have the length that the valid parts ask for.
func TestP13ComposeOfBadOps(t *testing.T) {
	for _, o := range notOk() {
		for _, n := range []int{0, 1, 2, 3, 4, 5, impl.MaxText - 1, impl.MaxText} {
			for _, other := range [][]impl.Part{op(keep(n)), op(drop(n), put(letters(n)...)), op(keep(n), put(), drop(0))} {
				refusesCompose(t, o, other)
				refusesCompose(t, other, o)
			}
		}
		refusesCompose(t, o, o)
	}
	long := op(keep(impl.MaxText), drop(1))
	wide := op(keep(impl.MaxText), put(97))
	refusesCompose(t, long, op(keep(impl.MaxText)))
	refusesCompose(t, op(keep(impl.MaxText)), wide)
	refusesCompose(t, wide, long)
	refusesCompose(t, long, wide)
}

func TestP4ComposeWithKeeping(t *testing.T) {
	check := func(o []impl.Part) {
		t.Helper()
		kept, puts, drops := lengths(o)
		before := checkCompose(t, impl.Keeping(kept+drops), o)
		after := checkCompose(t, o, impl.Keeping(kept+puts))
		if want := stepwiseNorm(o); !alike(before, want) || !alike(after, want) {
			t.Fatalf("Keeping before and after %v: %v and %v", o, before, after)
		}
	}
	smallOps(4, check)
	for _, c := range composeCases() {
		check(c.a)
		check(c.b)
	}
}

// TestP4ComposeWithTheInverse: of an operation and its inverse remains that
// the deleted characters are deleted and inserted again.
func TestP4ComposeWithTheInverse(t *testing.T) {
	check := func(o []impl.Part) {
		t.Helper()
		kept, _, drops := lengths(o)
		text := numbered(kept + drops)
		inverse, _ := impl.Invert(o, text)
		there, back := checkCompose(t, o, inverse), checkCompose(t, inverse, o)
		if want := restored(o, text); !alike(there, want) {
			t.Fatalf("Compose(%v, %v): %v, not %v", o, inverse, there, want)
		}
		if want := restored(inverse, effect(o, text)); !alike(back, want) {
			t.Fatalf("Compose(%v, %v): %v, not %v", inverse, o, back, want)
		}
		if got, ok := impl.Apply(there, text); !ok || !slices.Equal(got, text) {
			t.Fatalf("%v and its inverse lead from %v to %v %v", o, text, got, ok)
		}
	}
	smallOps(4, check)
	for _, c := range composeCases() {
		check(c.a)
		check(c.b)
	}
}

// restored returns the operation that deletes what o deletes from t, and
// inserts it again.
func restored(o []impl.Part, t []int) []impl.Part {
	var l []impl.Part
	at := 0
	for _, p := range o {
		switch p.Kind {
		case impl.PtKeep:
			l, at = append(l, keep(p.N)), at+p.N
		case impl.PtDrop:
			l, at = append(l, put(t[at:at+p.N]...), drop(p.N)), at+p.N
		}
	}
	return stepwiseNorm(l)
}

// checkAssociative composes three operations that fit in both ways.
func checkAssociative(t *testing.T, a []impl.Part, b []impl.Part, c []impl.Part) {
	t.Helper()
	ab, okAB := impl.Compose(a, b)
	bc, okBC := impl.Compose(b, c)
	left, okLeft := impl.Compose(ab, c)
	right, okRight := impl.Compose(a, bc)
	if !okAB || !okBC || !okLeft || !okRight || !alike(left, right) {
		t.Fatalf("%v, %v, %v: %v %v and %v %v", a, b, c, left, okLeft, right, okRight)
	}
	kept, _, drops := lengths(a)
	if all, ok := impl.ComposeAll([][]impl.Part{a, b, c}, kept+drops); !ok || !alike(all, left) {
		t.Fatalf("ComposeAll of %v, %v, %v: %v %v, not %v", a, b, c, all, ok, left)
	}
	text := numbered(kept + drops)
	if got := effect(left, text); !slices.Equal(got, effect(c, effect(b, effect(a, text)))) {
		t.Fatalf("%v, %v, %v lead to %v", a, b, c, got)
	}
}

func TestP4ComposeIsAssociativeForSmallOps(t *testing.T) {
	seconds := opsByFrom(2)
	smallOps(2, func(a []impl.Part) {
		kept, puts, _ := lengths(a)
		for _, b := range seconds[kept+puts] {
			kept, puts, _ := lengths(b)
			for _, c := range seconds[kept+puts] {
				checkAssociative(t, a, changed(b, -32), changed(c, -64))
			}
		}
	})
}

// padded returns o with parts without effect at random places, up to MaxParts.
func padded(r *rand.Rand, o []impl.Part) []impl.Part {
	l := slices.Clone(o)
	for len(l) < impl.MaxParts {
		l = slices.Insert(l, r.Intn(len(l)+1), op(keep(0), put(), drop(0))[r.Intn(3)])
	}
	return l
}

// randomOpTo returns an operation that is OpOk and leads to n characters.
func randomOpTo(r *rand.Rand, n int) []impl.Part {
	o, _ := impl.Invert(randomOpOn(r, n), randomText(r, n))
	return o
}

func TestP4ComposeRandomOps(t *testing.T) {
	r := rand.New(rand.NewSource(8))
	for range 700 {
		b := randomOp(r)
		kept, puts, drops := lengths(b)
		a, c := randomOpTo(r, kept+drops), randomOpOn(r, kept+puts)
		checkAssociative(t, a, b, c)
		checkCompose(t, a, b)
		checkCompose(t, b, c)
		checkCompose(t, padded(r, a), padded(r, b))
		checkAssociative(t, padded(r, a), padded(r, b), padded(r, c))
	}
}

// TestP4ComposeRandomFullOps is about texts of MaxText characters before,
// between and after the operations.
func TestP4ComposeRandomFullOps(t *testing.T) {
	r := rand.New(rand.NewSource(9))
	full := func() []impl.Part {
		var o []impl.Part
		for left := impl.MaxText; left > 0; {
			n := 1 + r.Intn(min(left, 9))
			o = append(o, [][]impl.Part{op(keep(n)), op(drop(n), put(randomText(r, n)...)), op(put(randomText(r, n)...), drop(n))}[r.Intn(3)]...)
			left -= n
		}
		return o
	}
	for range 300 {
		a, b, c := full(), full(), full()
		checkCompose(t, a, b)
		checkAssociative(t, a, padded(r, b), c)
	}
}

// TestP4ComposeOfNormalForms: an operation and its normal form have the same
// compositions.
func TestP4ComposeOfNormalForms(t *testing.T) {
	for _, c := range composeCases() {
		a, b := impl.OpNorm(c.a), impl.OpNorm(c.b)
		for _, pair := range [][2][]impl.Part{{a, c.b}, {c.a, b}, {a, b}} {
			if got, ok := impl.Compose(pair[0], pair[1]); !ok || !alike(got, c.want) {
				t.Errorf("Compose(%v, %v): %v %v, not %v", pair[0], pair[1], got, ok, c.want)
			}
		}
	}
}

// chainComposed returns, for the operations of chain, the composition of the
// first n at index n.
func chainComposed() [][]impl.Part {
	return [][]impl.Part{
		op(keep(3)),
		op(keep(1), put(65), drop(1), keep(1)),
		op(keep(1), put(65), drop(1), keep(1), put(66, 67)),
		op(put(66, 67), drop(3)),
		op(put(68, 66, 69), drop(3)),
	}
}

func TestP13ComposeAll(t *testing.T) {
	ops, texts := chain()
	for n, want := range chainComposed() {
		if got, ok := impl.ComposeAll(ops[:n], 3); !ok || !alike(got, want) {
			t.Errorf("ComposeAll(%v, 3): %v %v, not %v", ops[:n], got, ok, want)
		}
	}
	for from := range texts {
		for to := from; to < len(texts); to++ {
			o, ok := impl.ComposeAll(ops[from:to], len(texts[from]))
			if got, applied := impl.Apply(o, texts[from]); !ok || !applied || !slices.Equal(got, texts[to]) || !impl.IsNorm(o) {
				t.Errorf("ComposeAll(%v, %d): %v %v", ops[from:to], len(texts[from]), o, ok)
			}
		}
	}
	one, two := op(put(65), keep(1), drop(1)), op(put(66), keep(1), drop(1))
	if got, ok := impl.ComposeAll([][]impl.Part{one, two}, 2); !ok || !alike(got, op(put(66, 65), drop(2))) {
		t.Errorf("not in order: %v %v", got, ok)
	}
}

func TestP13ComposeAllOfOne(t *testing.T) {
	for _, c := range composeCases() {
		for _, o := range [][]impl.Part{c.a, c.b} {
			n := impl.OpFrom(o)
			if got, ok := impl.ComposeAll([][]impl.Part{o}, n); !ok || !alike(got, stepwiseNorm(o)) {
				t.Errorf("ComposeAll of %v: %v %v", o, got, ok)
			}
			for _, other := range []int{n - 1, n + 1} {
				if got, ok := impl.ComposeAll([][]impl.Part{o}, other); ok || len(got) != 0 {
					t.Errorf("ComposeAll of %v at %d characters: %v %v", o, other, got, ok)
				}
			}
		}
		if got, ok := impl.ComposeAll([][]impl.Part{c.a, c.b}, impl.OpFrom(c.a)); !ok || !alike(got, c.want) {
			t.Errorf("ComposeAll of %v and %v: %v %v, not %v", c.a, c.b, got, ok, c.want)
		}
	}
}

func TestP13ComposeAllWithoutOperations(t *testing.T) {
	for _, none := range [][][]impl.Part{nil, {}} {
		for n := range impl.MaxText + 1 {
			if got, ok := impl.ComposeAll(none, n); !ok || !alike(got, stepwiseNorm(op(keep(n)))) {
				t.Errorf("ComposeAll without operations at %d characters: %v %v", n, got, ok)
			}
		}
	}
}

// TestP13ComposeAllOutsideItsLimits has operations that would apply to what
// Keeping returns for such a number.
func TestP13ComposeAllOutsideItsLimits(t *testing.T) {
	for _, n := range []int{-1, -2, -impl.MaxText, math.MinInt, impl.MaxText + 1, impl.MaxText + 2, 2 * impl.MaxText, 1 << 32, 1<<32 + 1, math.MaxInt} {
		for _, l := range [][][]impl.Part{nil, {}, {nil}, {nil, nil}, {op(put(97)), op(keep(1))}, {op(keep(n))}, {op(keep(impl.MaxText))}, {op(keep(impl.MaxText), keep(1))}} {
			if got, ok := impl.ComposeAll(l, n); ok || len(got) != 0 {
				t.Errorf("ComposeAll(%v, %d): %v %v", l, n, got, ok)
			}
		}
	}
	full, other := op(drop(impl.MaxText), put(numbered(impl.MaxText)...)), op(drop(impl.MaxText), put(letters(impl.MaxText)...))
	if got, ok := impl.ComposeAll([][]impl.Part{full, other, full}, impl.MaxText); !ok || !alike(got, stepwiseNorm(full)) {
		t.Errorf("ComposeAll at MaxText characters: %v %v", got, ok)
	}
	if got, ok := impl.ComposeAll([][]impl.Part{op(put(97)), op(keep(1), put(98))}, 0); !ok || !alike(got, op(put(97, 98))) {
		t.Errorf("ComposeAll at 0 characters: %v %v", got, ok)
	}
}

// TestP13ComposeAllWithOneThatFails puts such an operation at the beginning,
// in the middle and at the end of a list that can be composed without it.
func TestP13ComposeAllWithOneThatFails(t *testing.T) {
	ops, texts := chain()
	for at, text := range texts {
		n := len(text)
		for _, o := range failsOn(n) {
			l := slices.Insert(slices.Clone(ops), at, o)
			if got, ok := impl.ComposeAll(l, 3); ok || len(got) != 0 {
				t.Errorf("ComposeAll(%v, 3): %v %v", l, got, ok)
			}
			if got, ok := impl.ComposeAll([][]impl.Part{o}, n); ok || len(got) != 0 {
				t.Errorf("ComposeAll of %v at %d characters: %v %v", o, n, got, ok)
			}
		}
		l := slices.Insert(slices.Clone(ops), at, op(keep(n)))
		if got, ok := impl.ComposeAll(l, 3); !ok || !alike(got, chainComposed()[len(ops)]) {
			t.Errorf("ComposeAll(%v, 3): %v %v", l, got, ok)
		}
	}
}

func TestP13ComposeAllRandom(t *testing.T) {
	r := rand.New(rand.NewSource(10))
	for range 300 {
		text := numbered(r.Intn(impl.MaxText + 1))
		now, want := text, op(keep(len(text)))
		var ops [][]impl.Part
		for range r.Intn(12) {
			o := randomOpOn(r, len(now))
			ops, now, want = append(ops, o), effect(o, now), stepwiseCompose(want, o)
		}
		o, ok := impl.ComposeAll(ops, len(text))
		if !ok || !alike(o, stepwiseNorm(want)) {
			t.Fatalf("ComposeAll(%v, %d): %v %v, not %v", ops, len(text), o, ok, want)
		}
		if got, ok := impl.Apply(o, text); !ok || !slices.Equal(got, now) {
			t.Fatalf("ComposeAll(%v, %d) leads to %v %v, not %v", ops, len(text), got, ok, now)
		}
	}
}

func TestP13PartCount(t *testing.T) {
	o := op(keep(1), put(97, 98), drop(3), keep(0), put(), drop(2), keep(1), keep(7), put(99), keep(2))
	for kind, want := range map[int]int{impl.PtKeep: 5, impl.PtPut: 3, impl.PtDrop: 2, 0: 0, 4: 0, 9: 0, -1: 0, 1<<32 + 1: 0, math.MinInt: 0, math.MaxInt: 0} {
		if got := impl.PartCount(o, kind); got != want {
			t.Errorf("PartCount(%v, %d): %d, not %d", o, kind, got, want)
		}
		for _, none := range [][]impl.Part{nil, {}} {
			if got := impl.PartCount(none, kind); got != 0 {
				t.Errorf("PartCount without parts at %d: %d", kind, got)
			}
		}
	}
	smallOps(4, func(o []impl.Part) {
		var counts [4]int
		for _, p := range o {
			counts[p.Kind]++
		}
		for kind, want := range counts {
			if got := impl.PartCount(o, kind); got != want {
				t.Fatalf("PartCount(%v, %d): %d, not %d", o, kind, got, want)
			}
		}
	})
}

// TestP13PartCountOfBadOps: the parts count whether or not they are valid.
func TestP13PartCountOfBadOps(t *testing.T) {
	for _, p := range badParts() {
		for _, kind := range []int{0, impl.PtKeep, impl.PtPut, impl.PtDrop, 4, -1, math.MinInt, p.Kind} {
			want := 0
			for _, k := range []int{impl.PtKeep, p.Kind, impl.PtPut, p.Kind, impl.PtDrop} {
				if k == kind {
					want++
				}
			}
			if got := impl.PartCount(op(keep(1), p, put(97), p, drop(1)), kind); got != want {
				t.Errorf("PartCount with %v at %d: %d, not %d", p, kind, got, want)
			}
		}
	}
	for _, p := range op(keep(0), keep(impl.MaxText), put(), put(97), drop(1), impl.Part{}) {
		for _, n := range []int{impl.MaxParts, impl.MaxParts + 1, 4 * impl.MaxParts} {
			if got := impl.PartCount(repeated(p, n), p.Kind); got != n {
				t.Errorf("PartCount of %d times %v: %d", n, p, got)
			}
		}
	}
}

func TestP13ComposeNilAndEmptyAreEqual(t *testing.T) {
	for _, c := range composeCases() {
		for _, one := range [][]int{nil, {}} {
			for _, two := range [][]int{nil, {}} {
				a, b := emptied(c.a, one), emptied(c.b, two)
				if got, ok := impl.Compose(a, b); !ok || !alike(got, c.want) {
					t.Errorf("Compose(%v, %v): %v %v, not %v", a, b, got, ok, c.want)
				}
			}
		}
	}
	for _, a := range [][]impl.Part{nil, {}} {
		for _, b := range [][]impl.Part{nil, {}} {
			if got, ok := impl.Compose(a, b); !ok || len(got) != 0 {
				t.Errorf("Compose without parts: %v %v", got, ok)
			}
			if got, ok := impl.ComposeAll([][]impl.Part{a, b}, 0); !ok || len(got) != 0 {
				t.Errorf("ComposeAll without parts: %v %v", got, ok)
			}
		}
	}
}

// composeMisfits are pairs of operations without a composition.
func composeMisfits() []composeCase {
	l := []composeCase{
		{a: op(keep(2), put(97)), b: op(keep(2))},
		{a: op(keep(2), put(97)), b: op(keep(2), drop(2))},
		{a: op(put(97, 98)), b: nil},
		{a: nil, b: op(put(97), drop(1))},
	}
	for _, o := range tooLong() {
		l = append(l, composeCase{a: o, b: op(put(97), keep(impl.MaxText-1), drop(1))}, composeCase{a: op(keep(impl.MaxText)), b: o})
	}
	for _, p := range badParts() {
		l = append(l, composeCase{a: op(put(97), p), b: op(keep(1))}, composeCase{a: op(put(97)), b: op(keep(1), p)})
	}
	return l
}

func TestP13ComposeArgumentsAreNotChanged(t *testing.T) {
	for _, c := range append(composeCases(), composeMisfits()...) {
		a, keptA := sparedOp(c.a)
		b, keptB := sparedOp(c.b)
		impl.Compose(a, b)
		impl.Compose(b, a)
		impl.Compose(a, a)
		impl.PartCount(a, impl.PtPut)
		if !keptA() || !keptB() {
			t.Errorf("an argument was changed: %v, %v", c.a, c.b)
		}
		l, kept := sparedOps([][]impl.Part{c.a, c.b})
		impl.ComposeAll(l, impl.OpFrom(c.a))
		impl.ComposeAll(l[1:], impl.OpFrom(c.b))
		if !kept() {
			t.Errorf("ComposeAll changed %v or %v", c.a, c.b)
		}
	}
	ops, _ := chain()
	for _, all := range [][][]impl.Part{ops, append(ops, op(keep(1)), op(keep(9))), nil} {
		l, kept := sparedOps(all)
		impl.ComposeAll(l, 3)
		if !kept() {
			t.Errorf("ComposeAll changed %v", all)
		}
	}
}

func TestP13ComposeResultsShareNothing(t *testing.T) {
	for _, c := range composeCases() {
		a, keptA := sparedOp(c.a)
		b, keptB := sparedOp(c.b)
		spoiled, _ := impl.Compose(a, b)
		o, _ := impl.Compose(a, b)
		if !separate(signLists(spoiled)...) {
			t.Errorf("Compose(%v, %v): two parts share memory", c.a, c.b)
		}
		spoilOp(spoiled)
		if !keptA() || !keptB() || !alike(o, c.want) {
			t.Errorf("Compose(%v, %v) shares memory with an argument or with another result", c.a, c.b)
		}
		spoilOp(a)
		spoilOp(b)
		if !alike(o, c.want) {
			t.Errorf("Compose(%v, %v) depends on its arguments after the call", c.a, c.b)
		}
	}
}

// TestP13ComposePiecesShareNothing cuts one insertion of a into several parts
// of the result.
func TestP13ComposePiecesShareNothing(t *testing.T) {
	a := op(put(letters(6)...), keep(1), put(letters(6)...), keep(1))
	b := op(keep(2), drop(1), put(65), keep(3), put(66), keep(2), drop(2), keep(3), keep(1))
	want := op(put(97, 98, 65, 100, 101, 102, 66), keep(1), put(97, 100, 101, 102), keep(1))
	o := checkCompose(t, a, b)
	if !alike(o, want) {
		t.Fatalf("Compose(%v, %v): %v", a, b, o)
	}
	if !separate(signLists(o)...) || !alike(a, op(put(letters(6)...), keep(1), put(letters(6)...), keep(1))) {
		t.Error("pieces of one part share memory")
	}
}

func TestP13ComposeAllResultsShareNothing(t *testing.T) {
	all, _ := chain()
	for n, want := range chainComposed() {
		ops, kept := sparedOps(all[:n])
		spoiled, _ := impl.ComposeAll(ops, 3)
		o, _ := impl.ComposeAll(ops, 3)
		if !separate(signLists(spoiled)...) {
			t.Errorf("ComposeAll(%v): two parts share memory", all[:n])
		}
		spoilOp(spoiled)
		if !kept() || !alike(o, want) {
			t.Errorf("ComposeAll(%v) shares memory with an argument or with another result", all[:n])
		}
		for _, p := range ops {
			spoilOp(p)
		}
		if !alike(o, want) {
			t.Errorf("ComposeAll(%v) depends on its arguments after the call", all[:n])
		}
	}
}

// TestP13ComposeArgumentsOfOneList composes operations whose parts and
// characters are parts of one list.
func TestP13ComposeArgumentsOfOneList(t *testing.T) {
	all := letters(6)
	a := op(put(all[:2]...), keep(1), put(all[2:4]...))
	b := op(keep(1), put(all[1:5]...), drop(2), keep(2), put(all...))
	want := op(put(97, 98, 99, 100, 101), drop(1), put(99, 100, 97, 98, 99, 100, 101, 102))
	if got, ok := impl.Compose(a, b); !ok || !alike(got, stepwiseNorm(want)) {
		t.Errorf("Compose(%v, %v): %v %v", a, b, got, ok)
	}
	parts := op(keep(2), put(all[:1]...), drop(1), keep(1), put(all[5:]...))
	if got, ok := impl.Compose(parts[:3], parts[:3]); !ok || !alike(got, op(keep(2), put(97), drop(1))) {
		t.Errorf("an operation composed with itself: %v %v", got, ok)
	}
	if got, ok := impl.Compose(parts[:3], parts[1:4]); ok || len(got) != 0 {
		t.Errorf("Compose of two parts of one list: %v %v", got, ok)
	}
	if got, ok := impl.Compose(parts[1:4], parts[2:5]); !ok || !alike(got, op(drop(1), keep(1), put(102))) {
		t.Errorf("Compose of two parts of one list: %v %v", got, ok)
	}
	if !slices.Equal(all, letters(6)) {
		t.Errorf("the characters became %v", all)
	}
}
