package tests

import (
	"math/rand"
	"slices"
	"testing"

	"loop.example/g00797/impl"
)

// transformCase has both results written out.
type transformCase struct {
	a, b, x, y []impl.Part
}

// swapped is the case with the other order of the arguments. It has the same
// results only if the two do not insert at the same position.
func (c transformCase) swapped() transformCase {
	return transformCase{c.b, c.a, c.y, c.x}
}

// loneInserts are the cases in which only one operation inserts: at the
// beginning, in the middle and at the end, where no part of the other is left.
func loneInserts() []transformCase {
	return []transformCase{
		{op(put(65), keep(2)), op(keep(2)), op(put(65), keep(2)), op(keep(3))},
		{op(put(65, 66), keep(2)), op(keep(2)), op(put(65, 66), keep(2)), op(keep(4))},
		{op(put(65, 66, 67), keep(2)), op(keep(2)), op(put(65, 66, 67), keep(2)), op(keep(5))},
		{op(put(65), keep(2)), op(drop(2)), op(put(65)), op(keep(1), drop(2))},
		{op(put(65, 66), keep(2)), op(drop(2)), op(put(65, 66)), op(keep(2), drop(2))},
		{op(put(65, 66, 67), keep(2)), op(drop(2)), op(put(65, 66, 67)), op(keep(3), drop(2))},
		{op(put(65), drop(2)), op(keep(2)), op(put(65), drop(2)), op(keep(1))},
		{op(put(65, 66), drop(2)), op(drop(2)), op(put(65, 66)), op(keep(2))},
		{op(keep(1), put(65), keep(1)), op(keep(2)), op(keep(1), put(65), keep(1)), op(keep(3))},
		{op(keep(1), put(65), keep(1)), op(drop(2)), op(put(65)), op(drop(1), keep(1), drop(1))},
		{op(drop(1), put(65), keep(1)), op(keep(2)), op(put(65), drop(1), keep(1)), op(keep(2))},
		{op(drop(1), put(65), keep(1)), op(drop(2)), op(put(65)), op(keep(1), drop(1))},
		{op(keep(2), put(65)), op(keep(2)), op(keep(2), put(65)), op(keep(3))},
		{op(keep(2), put(65)), op(drop(2)), op(put(65)), op(drop(2), keep(1))},
		{op(drop(2), put(65)), op(keep(2)), op(put(65), drop(2)), op(keep(1))},
		{op(drop(2), put(65)), op(drop(2)), op(put(65)), op(keep(1))},
		{op(keep(1), put(65), put(66)), op(drop(1)), op(put(65, 66)), op(drop(1), keep(2))},
		{op(put(65)), nil, op(put(65)), op(keep(1))},
		{op(put(65), put(66, 67)), nil, op(put(65, 66, 67)), op(keep(3))},
		{op(put(65), drop(0), put(66)), op(keep(0)), op(put(65, 66)), op(keep(2))},
	}
}

// sharedInserts are the cases in which both insert at the same position, with
// the insertion of a shorter than, as long as and longer than that of b.
func sharedInserts() []transformCase {
	return []transformCase{
		{op(put(65)), op(put(97, 98)), op(put(65), keep(2)), op(keep(1), put(97, 98))},
		{op(put(65, 66)), op(put(97, 98)), op(put(65, 66), keep(2)), op(keep(2), put(97, 98))},
		{op(put(65, 66, 67)), op(put(97, 98)), op(put(65, 66, 67), keep(2)), op(keep(3), put(97, 98))},
		{op(put(65)), op(put(65)), op(put(65), keep(1)), op(keep(1), put(65))},
		{op(put(65), keep(2)), op(put(97, 98), keep(2)), op(put(65), keep(4)), op(keep(1), put(97, 98), keep(2))},
		{op(keep(1), put(65), keep(1)), op(keep(1), put(97, 98), keep(1)), op(keep(1), put(65), keep(3)), op(keep(2), put(97, 98), keep(1))},
		{op(keep(2), put(65)), op(keep(2), put(97, 98)), op(keep(2), put(65), keep(2)), op(keep(3), put(97, 98))},
		{op(put(65), put(66)), op(put(97), put(98)), op(put(65, 66), keep(2)), op(keep(2), put(97, 98))},
		{op(put(65), drop(2)), op(put(97), drop(2)), op(put(65), keep(1)), op(keep(1), put(97))},
		{op(put(65), drop(2)), op(put(97), keep(2)), op(put(65), keep(1), drop(2)), op(keep(1), put(97))},
		{op(put(65), keep(2)), op(put(97), drop(2)), op(put(65), keep(1)), op(keep(1), put(97), drop(2))},
		{op(drop(1), put(65)), op(drop(1), put(97)), op(put(65), keep(1)), op(keep(1), put(97))},
		{op(drop(1), put(65)), op(keep(1), put(97)), op(put(65), drop(1), keep(1)), op(keep(1), put(97))},
		{op(keep(1), put(65)), op(drop(1), put(97)), op(put(65), keep(1)), op(drop(1), keep(1), put(97))},
		{op(put(65), keep(1), put(66)), op(put(97), keep(1), put(98)), op(put(65), keep(2), put(66), keep(1)), op(keep(1), put(97), keep(2), put(98))},
		{op(put(0, 55295)), op(put(57344, impl.MaxSign)), op(put(0, 55295), keep(2)), op(keep(2), put(57344, impl.MaxSign))},
	}
}

// apartInserts are the cases in which both insert at different positions. The
// parts count in their given order: a deletion before an insertion is passed
// first, although the normal form has the insertion first.
func apartInserts() []transformCase {
	return []transformCase{
		{op(put(65), keep(1)), op(keep(1), put(97)), op(put(65), keep(2)), op(keep(2), put(97))},
		{op(put(65), drop(1)), op(drop(1), put(97)), op(put(65), keep(1)), op(keep(1), put(97))},
		{op(put(65), drop(1)), op(keep(1), put(97)), op(put(65), drop(1), keep(1)), op(keep(1), put(97))},
		{op(drop(1), put(65)), op(put(97), keep(1)), op(keep(1), put(65), drop(1)), op(put(97), keep(1))},
		{op(drop(1), put(65)), op(put(97), drop(1)), op(keep(1), put(65)), op(put(97), keep(1))},
		{op(drop(2), put(65), keep(1)), op(keep(1), put(97), keep(2)), op(drop(1), keep(1), put(65), drop(1), keep(1)), op(put(97), keep(2))},
		{op(put(65), drop(1), put(66)), op(keep(1)), op(put(65, 66), drop(1)), op(keep(2))},
		{op(keep(1), put(65), keep(2)), op(keep(2), put(97), keep(1)), op(keep(1), put(65), keep(3)), op(keep(3), put(97), keep(1))},
	}
}

// mixedInserts have insertions at the same position beside others.
func mixedInserts() []transformCase {
	return []transformCase{
		{op(put(65), drop(1), put(66)), op(drop(1), put(97)), op(put(65, 66), keep(1)), op(keep(2), put(97))},
		{op(put(65), drop(1), put(66)), op(put(97), drop(1)), op(put(65), keep(1), put(66)), op(keep(1), put(97), keep(1))},
		{op(put(65), keep(1), put(66)), op(drop(1), put(97)), op(put(65, 66), keep(1)), op(keep(1), drop(1), keep(1), put(97))},
		{op(keep(1), put(65), keep(1), put(66), keep(1)), op(keep(1), drop(1), put(97), keep(1)), op(keep(1), put(65, 66), keep(2)), op(keep(2), drop(1), keep(1), put(97), keep(1))},
	}
}

// passedByBoth are the cases in which both retain or delete, with the part of
// a shorter than, as long as and longer than the part of b.
func passedByBoth() []transformCase {
	return []transformCase{
		{op(keep(1), drop(1)), op(keep(2)), op(keep(1), drop(1)), op(keep(1))},
		{op(keep(2)), op(keep(2)), op(keep(2)), op(keep(2))},
		{op(keep(2)), op(keep(1), drop(1)), op(keep(1)), op(keep(1), drop(1))},
		{op(drop(1), keep(1)), op(keep(2)), op(drop(1), keep(1)), op(keep(1))},
		{op(drop(2)), op(keep(2)), op(drop(2)), nil},
		{op(drop(3)), op(keep(2), drop(1)), op(drop(2)), nil},
		{op(keep(1), drop(1)), op(drop(2)), nil, op(drop(1))},
		{op(keep(2)), op(drop(2)), nil, op(drop(2))},
		{op(keep(3)), op(drop(2), keep(1)), op(keep(1)), op(drop(2), keep(1))},
		{op(drop(1), keep(1)), op(drop(2)), nil, op(drop(1))},
		{op(drop(2)), op(drop(2)), nil, nil},
		{op(drop(3)), op(drop(2), keep(1)), op(drop(1)), nil},
		{op(keep(1), keep(1), keep(1)), op(keep(2), keep(1)), op(keep(3)), op(keep(3))},
		{op(drop(1), drop(2)), op(drop(2), drop(1)), nil, nil},
		{op(drop(1), keep(1), drop(1)), op(keep(1), drop(1), keep(1)), op(drop(2)), op(drop(1))},
		{op(keep(1), drop(2), keep(2)), op(keep(2), drop(2), keep(1)), op(keep(1), drop(1), keep(1)), op(keep(1), drop(1), keep(1))},
		{nil, nil, nil, nil},
	}
}

// crossedFull are the cases at the limits of operations: at least one result
// leads to MaxText characters or passes as many.
func crossedFull() []transformCase {
	full, other := numbered(impl.MaxText), letters(impl.MaxText)
	ones := slices.Repeat([]int{65}, impl.MaxText)
	half := impl.MaxText / 2
	return []transformCase{
		{op(keep(impl.MaxText)), op(keep(impl.MaxText)), op(keep(impl.MaxText)), op(keep(impl.MaxText))},
		{op(drop(impl.MaxText)), op(drop(impl.MaxText)), nil, nil},
		{op(drop(impl.MaxText)), op(keep(impl.MaxText)), op(drop(impl.MaxText)), nil},
		{op(put(full...)), nil, op(put(full...)), op(keep(impl.MaxText))},
		{nil, op(put(full...)), op(keep(impl.MaxText)), op(put(full...))},
		{op(put(full[:half]...)), op(put(other[:half]...)), op(put(full[:half]...), keep(half)), op(keep(half), put(other[:half]...))},
		{op(put(full[1:]...)), op(put(97)), op(put(full[1:]...), keep(1)), op(keep(impl.MaxText-1), put(97))},
		{op(put(65)), op(put(other[1:]...)), op(put(65), keep(impl.MaxText-1)), op(keep(1), put(other[1:]...))},
		{op(put(full...), drop(impl.MaxText)), op(drop(impl.MaxText)), op(put(full...)), op(keep(impl.MaxText))},
		{op(drop(impl.MaxText)), op(drop(impl.MaxText), put(full...)), op(keep(impl.MaxText)), op(put(full...))},
		{op(drop(impl.MaxText), put(full...)), op(keep(impl.MaxText)), op(put(full...), drop(impl.MaxText)), op(keep(impl.MaxText))},
		{op(drop(half), put(full[:half]...), drop(half)), op(put(other[:half]...), drop(impl.MaxText)), op(keep(half), put(full[:half]...)), op(put(other[:half]...), keep(half))},
		{op(keep(impl.MaxText-2), put(65)), op(put(97), keep(impl.MaxText-2)), op(keep(impl.MaxText-1), put(65)), op(put(97), keep(impl.MaxText-1))},
		{op(keep(impl.MaxText-1), put(65), drop(1)), op(drop(1), keep(impl.MaxText-1)), op(keep(impl.MaxText-2), put(65), drop(1)), op(drop(1), keep(impl.MaxText-1))},
		{slices.Repeat(op(drop(1), put(65), keep(0)), impl.MaxText), slices.Repeat(op(keep(1), put(), drop(0)), impl.MaxText), op(put(ones...), drop(impl.MaxText)), op(keep(impl.MaxText))},
		{slices.Repeat(op(drop(1), put(65), keep(0)), impl.MaxText), slices.Repeat(op(drop(0), drop(1), put()), impl.MaxText), op(put(ones...)), op(keep(impl.MaxText))},
		{slices.Repeat(op(put(65), keep(1)), half), slices.Repeat(op(drop(1)), half), op(put(ones[:half]...)), slices.Repeat(op(keep(1), drop(1)), half)},
		{slices.Repeat(op(put(65), drop(1)), half), slices.Repeat(op(put(65), drop(1)), half), slices.Repeat(op(put(65), keep(1)), half), slices.Repeat(op(keep(1), put(65)), half)},
		{repeated(drop(0), impl.MaxParts), repeated(put(), impl.MaxParts), nil, nil},
		{append(repeated(keep(0), impl.MaxParts-1), put(65)), append(repeated(drop(0), impl.MaxParts-1), put(97)), op(put(65), keep(1)), op(keep(1), put(97))},
	}
}

// smallCases are those of transformCases that are not at the limits.
func smallCases() []transformCase {
	l := slices.Concat(sharedInserts(), mixedInserts())
	for _, c := range slices.Concat(loneInserts(), apartInserts(), passedByBoth()) {
		l = append(l, c, c.swapped())
	}
	return l
}

func transformCases() []transformCase {
	return slices.Concat(smallCases(), crossedFull())
}

// tooLarge are pairs of valid operations on one text whose insertions together
// lead to more than MaxText characters.
func tooLarge() []transformCase {
	full := numbered(impl.MaxText)
	half := impl.MaxText / 2
	var l []transformCase
	for _, c := range []transformCase{
		{a: op(put(full[:half]...)), b: op(put(full[:half+1]...))},
		{a: op(put(full...)), b: op(put(97))},
		{a: op(put(full...)), b: op(put(full...))},
		{a: op(keep(impl.MaxText-1), put(65)), b: op(put(97), keep(impl.MaxText-1))},
		{a: op(keep(half), put(65), keep(half-1)), b: op(keep(half), put(97), keep(half-1))},
		{a: op(put(65), drop(1), keep(impl.MaxText-1)), b: op(put(97), drop(1), keep(impl.MaxText-1))},
		{a: op(keep(impl.MaxText-1), drop(1), put(65)), b: op(keep(impl.MaxText-1), drop(1), put(97))},
		{a: op(drop(impl.MaxText), put(full...)), b: op(put(full...), drop(impl.MaxText))},
		{a: op(drop(impl.MaxText), put(full...)), b: op(put(97), drop(impl.MaxText))},
		{a: op(drop(half), keep(half), put(full[:half]...)), b: op(put(97), drop(half), keep(half))},
		{a: slices.Repeat(op(put(65), keep(1)), half), b: op(keep(half), put(97))},
		{a: slices.Repeat(op(drop(1), put(65), keep(0)), impl.MaxText), b: op(drop(impl.MaxText), put(97))},
	} {
		l = append(l, c, c.swapped())
	}
	return l
}

// stepwiseTransform follows the document's rules character by character.
func stepwiseTransform(a []impl.Part, b []impl.Part) ([]impl.Part, []impl.Part) {
	var x, y []impl.Part
	a, b = singles(a), singles(b)
	for len(a)+len(b) > 0 {
		switch {
		case len(a) > 0 && a[0].Kind == impl.PtPut:
			x, y, a = append(x, a[0]), append(y, keep(1)), a[1:]
		case len(b) > 0 && b[0].Kind == impl.PtPut:
			x, y, b = append(x, keep(1)), append(y, b[0]), b[1:]
		default:
			if a[0].Kind == impl.PtKeep {
				y = append(y, b[0])
			}
			if b[0].Kind == impl.PtKeep {
				x = append(x, a[0])
			}
			a, b = a[1:], b[1:]
		}
	}
	return stepwiseNorm(x), stepwiseNorm(y)
}

// insertions returns what o inserts before every character of a text of n
// characters and behind the last one, and which characters it deletes.
func insertions(o []impl.Part, n int) ([][]int, []bool) {
	puts, drops := make([][]int, n+1), make([]bool, n)
	at := 0
	for _, p := range singles(o) {
		if p.Kind == impl.PtPut {
			puts[at] = append(puts[at], p.Signs...)
			continue
		}
		drops[at] = p.Kind == impl.PtDrop
		at++
	}
	return puts, drops
}

// together returns the text with the effects of both operations, in which at
// every position the insertion of a comes first.
func together(a []impl.Part, b []impl.Part, text []int) []int {
	putsA, dropsA := insertions(a, len(text))
	putsB, dropsB := insertions(b, len(text))
	var l []int
	for i := range len(text) + 1 {
		l = slices.Concat(l, putsA[i], putsB[i])
		if i < len(text) && !dropsA[i] && !dropsB[i] {
			l = append(l, text[i])
		}
	}
	return l
}

// refusesTransform checks that Transform returns nil, nil and false.
func refusesTransform(t *testing.T, a []impl.Part, b []impl.Part) {
	t.Helper()
	if x, y, ok := impl.Transform(a, b); ok || len(x) != 0 || len(y) != 0 {
		t.Fatalf("Transform(%v, %v): %v %v %v", a, b, x, y, ok)
	}
}

// checkTransform checks all that the document says of Transform for valid
// operations on one text, and reports whether they could be transformed.
func checkTransform(t *testing.T, a []impl.Part, b []impl.Part) bool {
	t.Helper()
	kept, _, drops := lengths(a)
	text := numbered(kept + drops)
	want := together(a, b, text)
	if len(want) > impl.MaxText {
		refusesTransform(t, a, b)
		return false
	}
	x, y, ok := impl.Transform(a, b)
	if wantX, wantY := stepwiseTransform(a, b); !ok || !alike(x, wantX) || !alike(y, wantY) {
		t.Fatalf("Transform(%v, %v): %v %v %v, not %v %v", a, b, x, y, ok, wantX, wantY)
	}
	if !impl.IsNorm(x) || !impl.IsNorm(y) {
		t.Fatalf("Transform(%v, %v) is not normal: %v %v", a, b, x, y)
	}
	viaA, okA := impl.ApplyAll([][]impl.Part{a, y}, text)
	viaB, okB := impl.ApplyAll([][]impl.Part{b, x}, text)
	if !okA || !okB || !slices.Equal(viaA, want) || !slices.Equal(viaB, want) {
		t.Fatalf("Transform(%v, %v) leads to %v %v and %v %v, not %v", a, b, viaA, okA, viaB, okB, want)
	}
	oneA, okA := impl.Compose(a, y)
	oneB, okB := impl.Compose(b, x)
	if !okA || !okB || !alike(oneA, oneB) {
		t.Fatalf("Transform(%v, %v) has the effects %v %v and %v %v", a, b, oneA, okA, oneB, okB)
	}
	return true
}

func TestP13Transform(t *testing.T) {
	for _, c := range transformCases() {
		if x, y, ok := impl.Transform(c.a, c.b); !ok || !alike(x, c.x) || !alike(y, c.y) {
			t.Errorf("Transform(%v, %v): %v %v %v, not %v %v", c.a, c.b, x, y, ok, c.x, c.y)
		}
		if !checkTransform(t, c.a, c.b) {
			t.Errorf("Transform(%v, %v) was refused", c.a, c.b)
		}
	}
}

// TestP13TransformEveryPairOfNextParts lets parts of all kinds and of several
// lengths meet, behind and before other parts of both operations.
func TestP13TransformEveryPairOfNextParts(t *testing.T) {
	for n := range 5 {
		for m := range 5 {
			for _, p := range op(keep(n), put(numbered(n)...), drop(n)) {
				for _, q := range op(keep(m), put(letters(m)...), drop(m)) {
					for _, before := range [][2][]impl.Part{{nil, nil}, {op(keep(2)), op(keep(2))}, {op(drop(2)), op(keep(1), drop(1))}, {op(put(65), keep(1)), op(put(66), drop(1))}} {
						a, b := levelled(append(slices.Clone(before[0]), p), append(slices.Clone(before[1]), q))
						checkTransform(t, a, b)
					}
				}
			}
		}
	}
}

// levelled returns a and b, of which the one that applies to fewer characters
// has got parts of several kinds for the others.
func levelled(a []impl.Part, b []impl.Part) ([]impl.Part, []impl.Part) {
	keptA, _, dropsA := lengths(a)
	keptB, _, dropsB := lengths(b)
	more := keptA + dropsA - keptB - dropsB
	rest := func(n int) []impl.Part {
		return op(keep(n/2), put(70, 71), drop(n-n/2))
	}
	if more < 0 {
		return append(a, rest(-more)...), b
	}
	return a, append(b, rest(more)...)
}

// TestP13TransformPartsWithoutEffect puts such parts at the beginning, in the
// middle and at the end of either operation.
func TestP13TransformPartsWithoutEffect(t *testing.T) {
	check := func(a []impl.Part, b []impl.Part, c transformCase) {
		if x, y, ok := impl.Transform(a, b); !ok || !alike(x, c.x) || !alike(y, c.y) {
			t.Errorf("Transform(%v, %v): %v %v %v, not %v %v", a, b, x, y, ok, c.x, c.y)
		}
	}
	for _, c := range smallCases() {
		for _, none := range withoutEffect() {
			for i := range len(c.a) + 1 {
				a := slices.Insert(slices.Clone(c.a), i, none...)
				check(a, c.b, c)
				for j := range len(c.b) + 1 {
					b := slices.Insert(slices.Clone(c.b), j, none...)
					check(c.a, b, c)
					check(a, b, c)
				}
			}
		}
	}
}

func TestP3TransformSmallOps(t *testing.T) {
	seconds := opsByFrom(3)
	smallOps(3, func(a []impl.Part) {
		kept, _, drops := lengths(a)
		for _, b := range seconds[kept+drops] {
			if !checkTransform(t, a, changed(b, -32)) {
				t.Fatalf("Transform(%v, %v) was refused", a, b)
			}
		}
	})
}

// mildOpOn returns an operation on n characters that changes a few.
func mildOpOn(r *rand.Rand, n int) []impl.Part {
	var o []impl.Part
	for left := n; left > 0; {
		many := r.Intn(min(left, 12) + 1)
		o = append(o, op(keep(many), keep(many), keep(many), drop(many))[r.Intn(4)])
		left -= many
		if r.Intn(3) == 0 {
			o = append(o, put(randomText(r, r.Intn(6))...))
		}
	}
	return append(o, put(randomText(r, r.Intn(3))...))
}

func TestP3TransformRandomOps(t *testing.T) {
	r := rand.New(rand.NewSource(11))
	done, refused := 0, 0
	for range 700 {
		n := r.Intn(impl.MaxText + 1)
		for _, random := range []func(r *rand.Rand, n int) []impl.Part{randomOpOn, mildOpOn} {
			a, b := random(r, n), random(r, n)
			if !impl.OpOk(a) || !impl.OpOk(b) {
				refusesTransform(t, a, b)
				continue
			}
			if checkTransform(t, a, b) {
				done++
			} else {
				refused++
			}
			checkTransform(t, padded(r, a), padded(r, b))
		}
	}
	if done < 100 || refused < 50 {
		t.Errorf("the operations are one-sided: %d and %d", done, refused)
	}
}

// TestP3InsertionsAtTheSamePosition: in both orders of the arguments, the
// characters of the first come first.
func TestP3InsertionsAtTheSamePosition(t *testing.T) {
	for n := range 6 {
		for at := range n + 1 {
			for many := range 4 {
				text := numbered(n)
				a := op(keep(at), put(letters(many+1)...), keep(n-at))
				b := op(keep(at), put(65, 66), keep(n-at))
				firsts := slices.Concat(text[:at], letters(many+1), []int{65, 66}, text[at:])
				seconds := slices.Concat(text[:at], []int{65, 66}, letters(many+1), text[at:])
				x, y, _ := impl.Transform(a, b)
				leadsTo(t, text, firsts, a, y)
				leadsTo(t, text, firsts, b, x)
				x, y, _ = impl.Transform(b, a)
				leadsTo(t, text, seconds, b, y)
				leadsTo(t, text, seconds, a, x)
			}
		}
	}
}

// leadsTo checks the effect of two operations, one after the other.
func leadsTo(t *testing.T, text []int, want []int, first []impl.Part, second []impl.Part) {
	t.Helper()
	if got, ok := impl.ApplyAll([][]impl.Part{first, second}, text); !ok || !slices.Equal(got, want) {
		t.Errorf("%v and %v lead from %v to %v %v, not %v", first, second, text, got, ok, want)
	}
}

// TestP3OneOrderOrTheOther: the order of the arguments matters only for
// insertions at the same position.
func TestP3OneOrderOrTheOther(t *testing.T) {
	ops := opsByFrom(2)
	for n, all := range ops {
		for _, a := range all {
			for _, b := range all {
				b = changed(b, -32)
				x, y, _ := impl.Transform(a, b)
				v, w, _ := impl.Transform(b, a)
				same := alike(x, w) && alike(y, v)
				if same == insertTogether(a, b, n) {
					t.Fatalf("%v and %v: %v %v and %v %v", a, b, x, y, v, w)
				}
			}
		}
	}
}

func insertTogether(a []impl.Part, b []impl.Part, n int) bool {
	putsA, _ := insertions(a, n)
	putsB, _ := insertions(b, n)
	for i := range n + 1 {
		if len(putsA[i]) > 0 && len(putsB[i]) > 0 {
			return true
		}
	}
	return false
}

func TestP3TransformWithKeeping(t *testing.T) {
	check := func(o []impl.Part) {
		t.Helper()
		kept, puts, drops := lengths(o)
		still, moved := impl.Keeping(kept+drops), op(keep(kept+puts))
		x, y, ok := impl.Transform(o, still)
		if !ok || !alike(x, stepwiseNorm(o)) || !alike(y, stepwiseNorm(moved)) {
			t.Fatalf("Transform(%v, %v): %v %v %v", o, still, x, y, ok)
		}
		x, y, ok = impl.Transform(still, o)
		if !ok || !alike(x, stepwiseNorm(moved)) || !alike(y, stepwiseNorm(o)) {
			t.Fatalf("Transform(%v, %v): %v %v %v", still, o, x, y, ok)
		}
	}
	smallOps(4, check)
	for _, c := range transformCases() {
		check(c.a)
		check(c.b)
	}
}

// TestP3TransformWithItself: what both delete is deleted once, what both
// insert is there twice.
func TestP3TransformWithItself(t *testing.T) {
	check := func(o []impl.Part) {
		t.Helper()
		if !checkTransform(t, o, o) {
			return
		}
		var wantX, wantY []impl.Part
		normal := stepwiseNorm(o)
		for _, p := range normal {
			switch p.Kind {
			case impl.PtKeep:
				wantX, wantY = append(wantX, p), append(wantY, p)
			case impl.PtPut:
				n := len(p.Signs)
				wantX, wantY = append(wantX, p, keep(n)), append(wantY, keep(n), p)
			}
		}
		x, y, ok := impl.Transform(normal, normal)
		if !ok || !alike(x, stepwiseNorm(wantX)) || !alike(y, stepwiseNorm(wantY)) {
			t.Fatalf("Transform of %v with itself: %v %v %v", normal, x, y, ok)
		}
	}
	smallOps(4, check)
	for _, c := range transformCases() {
		check(c.a)
		check(c.b)
	}
}

// TestP13TransformNeedsTheLength transforms operations of all lengths, so that
// in many pairs OpFrom of one is one less or one more than that of the other.
func TestP13TransformNeedsTheLength(t *testing.T) {
	for n := range impl.MaxText + 1 {
		a := op(put(65), drop(n-n/2), keep(n/2))
		for m := range impl.MaxText + 1 {
			b := op(drop(m/3), keep(m-m/3-m/4), drop(m/4), put())
			x, y, ok := impl.Transform(a, b)
			if ok != (n == m) || !ok && len(x)+len(y) != 0 {
				t.Fatalf("OpFrom %d and %d: %v %v %v", n, m, x, y, ok)
			}
		}
	}
	for _, c := range transformCases() {
		n := impl.OpFrom(c.b)
		for _, other := range [][]impl.Part{op(keep(n + 1)), op(put(97), drop(n+1)), op(keep(n - 1)), op(put(97), drop(n-1))} {
			refusesTransform(t, c.a, other)
			refusesTransform(t, other, c.b)
		}
	}
}

// TestP13TransformOfBadOps transforms operations that are not OpOk with others,
// of which some have the length that the valid parts ask for.
func TestP13TransformOfBadOps(t *testing.T) {
	for _, bad := range notOk() {
		for _, n := range []int{0, 1, 2, 3, 4, 5, impl.MaxText - 1, impl.MaxText, impl.MaxText + 1} {
			for _, other := range [][]impl.Part{op(keep(n)), op(drop(n)), op(keep(n/2), put(), drop(n-n/2))} {
				refusesTransform(t, bad, other)
				refusesTransform(t, other, bad)
			}
		}
		refusesTransform(t, bad, bad)
	}
	long, wide := op(keep(impl.MaxText), drop(1)), op(keep(impl.MaxText), put(97))
	for _, c := range [][2][]impl.Part{{long, op(drop(impl.MaxText), drop(1))}, {wide, op(drop(impl.MaxText))}, {wide, wide}} {
		refusesTransform(t, c[0], c[1])
		refusesTransform(t, c[1], c[0])
	}
}

func TestP13TransformOfTooMuch(t *testing.T) {
	for _, c := range tooLarge() {
		if !impl.OpOk(c.a) || !impl.OpOk(c.b) || impl.OpFrom(c.a) != impl.OpFrom(c.b) {
			t.Fatalf("%v and %v are refused for another reason", c.a, c.b)
		}
		refusesTransform(t, c.a, c.b)
	}
}

// TestP13TransformUpToMaxText inserts more and more on both sides.
func TestP13TransformUpToMaxText(t *testing.T) {
	full := numbered(impl.MaxText)
	for n := range impl.MaxText + 1 {
		for m := range impl.MaxText + 1 {
			_, _, ok := impl.Transform(op(put(full[:n]...)), op(put(full[:m]...)))
			if ok != (n+m <= impl.MaxText) {
				t.Fatalf("insertions of %d and %d characters: %v", n, m, ok)
			}
		}
	}
	for n := range 151 {
		for m := range 121 {
			a := op(put(full[:n]...), drop(50), keep(50))
			b := op(keep(20), drop(80), put(full[:m]...))
			if x, y, ok := impl.Transform(a, b); ok != (n+m <= impl.MaxText) || !ok && len(x)+len(y) != 0 {
				t.Fatalf("insertions of %d and %d characters instead of others: %v", n, m, ok)
			}
		}
	}
}

// stepwisePast follows the document's rules for Past and PastAll.
func stepwisePast(l [][]impl.Part, b []impl.Part) ([][]impl.Part, []impl.Part) {
	var others [][]impl.Part
	v := stepwiseNorm(b)
	for _, a := range l {
		x, y := stepwiseTransform(a, v)
		others, v = append(others, x), y
	}
	return others, v
}

// alikeAll compares two lists of operations without the program.
func alikeAll(a [][]impl.Part, b [][]impl.Part) bool {
	return slices.EqualFunc(a, b, alike)
}

// checkPast checks all that the document says of Past and PastAll for
// operations that can be transformed.
func checkPast(t *testing.T, l [][]impl.Part, b []impl.Part) {
	t.Helper()
	others, v := stepwisePast(l, b)
	one, okOne := impl.Past(l, b)
	if !okOne || !alike(one, v) {
		t.Fatalf("Past(%v, %v): %v %v, not %v", l, b, one, okOne, v)
	}
	all, okAll := impl.PastAll(l, b)
	if !okAll || !alikeAll(all, others) {
		t.Fatalf("PastAll(%v, %v): %v %v, not %v", l, b, all, okAll, others)
	}
	for _, o := range append(slices.Clone(all), one) {
		if !impl.IsNorm(o) {
			t.Fatalf("%v past %v is not normal: %v", b, l, o)
		}
	}
	kept, _, drops := lengths(b)
	text := numbered(kept + drops)
	before, _ := impl.ApplyAll(l, text)
	want, okWant := impl.Apply(one, before)
	after, _ := impl.Apply(b, text)
	if got, ok := impl.ApplyAll(all, after); !ok || !okWant || !slices.Equal(got, want) {
		t.Fatalf("%v past %v leads to %v %v and %v %v", b, l, want, okWant, got, ok)
	}
}

// refusesPast checks that both functions return nil and false.
func refusesPast(t *testing.T, l [][]impl.Part, b []impl.Part) {
	t.Helper()
	if got, ok := impl.Past(l, b); ok || len(got) != 0 {
		t.Fatalf("Past(%v, %v): %v %v", l, b, got, ok)
	}
	if got, ok := impl.PastAll(l, b); ok || len(got) != 0 {
		t.Fatalf("PastAll(%v, %v): %v %v", l, b, got, ok)
	}
}

// chainPast returns an operation on the first text of chain, and, at index n,
// what it becomes past the first n operations.
func chainPast() ([]impl.Part, [][]impl.Part) {
	return op(keep(1), put(97), drop(1), keep(1), put(98)), [][]impl.Part{
		op(keep(1), put(97), drop(1), keep(1), put(98)),
		op(keep(2), put(97), keep(1), put(98)),
		op(keep(2), put(97), keep(3), put(98)),
		op(put(97), keep(2), put(98)),
		op(keep(1), put(97), keep(2), put(98)),
	}
}

// chainOthers returns the operations of chain past that of chainPast.
func chainOthers() [][]impl.Part {
	return [][]impl.Part{
		op(keep(1), put(65), keep(3)),
		op(keep(4), put(66, 67), keep(1)),
		op(drop(2), keep(1), drop(1), keep(3)),
		op(put(68), keep(2), put(69), drop(1), keep(1)),
	}
}

func TestP13PastAndPastAll(t *testing.T) {
	ops, _ := chain()
	b, becomes := chainPast()
	for n, want := range becomes {
		if got, ok := impl.Past(ops[:n], b); !ok || !alike(got, want) {
			t.Errorf("Past(%v, %v): %v %v, not %v", ops[:n], b, got, ok, want)
		}
		if got, ok := impl.PastAll(ops[:n], b); !ok || !alikeAll(got, chainOthers()[:n]) {
			t.Errorf("PastAll(%v, %v): %v %v, not %v", ops[:n], b, got, ok, chainOthers()[:n])
		}
		checkPast(t, ops[:n], b)
	}
}

// TestP13PastWithoutOperations: the operation itself is left, normalized.
func TestP13PastWithoutOperations(t *testing.T) {
	check := func(b []impl.Part) {
		t.Helper()
		for _, none := range [][][]impl.Part{nil, {}} {
			if got, ok := impl.Past(none, b); !ok || !alike(got, stepwiseNorm(b)) {
				t.Fatalf("Past(%v, %v): %v %v", none, b, got, ok)
			}
			if got, ok := impl.PastAll(none, b); !ok || len(got) != 0 {
				t.Fatalf("PastAll(%v, %v): %v %v", none, b, got, ok)
			}
		}
	}
	smallOps(4, check)
	for _, c := range transformCases() {
		check(c.a)
		check(c.b)
	}
}

// TestP13PastOne: b is normalized before it is transformed, and the operation
// that it passes is not.
func TestP13PastOne(t *testing.T) {
	for _, c := range transformCases() {
		checkPast(t, [][]impl.Part{c.a}, c.b)
		x, y, _ := impl.Transform(c.a, impl.OpNorm(c.b))
		if got, ok := impl.Past([][]impl.Part{c.a}, c.b); !ok || !alike(got, y) {
			t.Errorf("Past %v, %v is %v %v, not %v", c.a, c.b, got, ok, y)
		}
		if got, ok := impl.PastAll([][]impl.Part{c.a}, c.b); !ok || !alikeAll(got, [][]impl.Part{x}) {
			t.Errorf("past %v, %v is %v %v, not %v", c.b, c.a, got, ok, x)
		}
	}
}

func TestP13PastOfNoNormalForm(t *testing.T) {
	early, late := op(put(65), keep(2)), op(keep(1), put(65), keep(1))
	cases := []struct {
		a, b, one, other []impl.Part
	}{
		{early, op(keep(1), keep(1)), op(keep(3)), op(put(65), keep(2))},
		{late, op(drop(1), put(97), keep(1)), op(put(97), drop(1), keep(2)), op(keep(1), put(65), keep(1))},
		{late, op(put(97), drop(1), keep(1)), op(put(97), drop(1), keep(2)), op(keep(1), put(65), keep(1))},
		{early, op(drop(1), put(97), keep(1)), op(keep(1), put(97), drop(1), keep(1)), op(put(65), keep(2))},
		{op(drop(1), put(65), keep(1)), op(put(97), keep(0), keep(2)), op(put(97), keep(2)), op(keep(1), put(65), drop(1), keep(1))},
		{op(drop(1), put(65), keep(1)), op(drop(1), put(97), keep(1)), op(put(97), keep(2)), op(keep(1), put(65), keep(1))},
	}
	for _, c := range cases {
		if got, ok := impl.Past([][]impl.Part{c.a}, c.b); !ok || !alike(got, c.one) {
			t.Errorf("Past %v, %v is %v %v, not %v", c.a, c.b, got, ok, c.one)
		}
		if got, ok := impl.PastAll([][]impl.Part{c.a}, c.b); !ok || !alikeAll(got, [][]impl.Part{c.other}) {
			t.Errorf("past %v, %v is %v %v, not %v", c.b, c.a, got, ok, c.other)
		}
		checkPast(t, [][]impl.Part{c.a}, c.b)
	}
}

func TestP3PastSmallOps(t *testing.T) {
	ops := opsByFrom(2)
	smallOps(2, func(b []impl.Part) {
		kept, _, drops := lengths(b)
		for _, first := range ops[kept+drops] {
			kept, puts, _ := lengths(first)
			for _, second := range ops[kept+puts] {
				checkPast(t, [][]impl.Part{first, second}, changed(b, -32))
			}
		}
	})
}

func TestP3PastRandomOps(t *testing.T) {
	r := rand.New(rand.NewSource(12))
	done, refused := 0, 0
	for range 500 {
		n := r.Intn(150)
		b := mildOpOn(r, n)
		if r.Intn(4) == 0 {
			b = append(b, put(randomText(r, max(0, impl.MaxText-impl.OpTo(b)-r.Intn(30)))...))
		}
		l, fits := [][]impl.Part(nil), true
		v := stepwiseNorm(b)
		for range r.Intn(12) {
			a := mildOpOn(r, n)
			x, y := stepwiseTransform(a, v)
			l, v, n = append(l, a), y, impl.OpTo(a)
			fits = fits && impl.OpOk(a) && impl.OpOk(x)
		}
		if !fits || !impl.OpOk(b) {
			refusesPast(t, l, b)
			refused++
			continue
		}
		checkPast(t, l, b)
		checkPast(t, l, padded(r, b))
		done++
	}
	if done < 100 || refused < 20 {
		t.Errorf("the operations are one-sided: %d and %d", done, refused)
	}
}

func TestP13PastOfABadOp(t *testing.T) {
	ops, _ := chain()
	for _, bad := range notOk() {
		for _, l := range [][][]impl.Part{nil, {}, {nil}, {op(keep(2))}, {op(keep(4))}, {op(keep(impl.MaxText))}, {bad}, ops} {
			refusesPast(t, l, bad)
		}
		for _, b := range [][]impl.Part{nil, op(keep(1)), op(keep(4)), op(keep(impl.MaxText))} {
			refusesPast(t, [][]impl.Part{bad}, b)
		}
	}
}

// TestP13PastOneThatFails puts an operation that cannot be transformed at the
// beginning, in the middle and at the end of others that can.
func TestP13PastOneThatFails(t *testing.T) {
	ops, texts := chain()
	b, becomes := chainPast()
	for at, text := range texts {
		n := len(text)
		large := [][]impl.Part{op(drop(n), put(letters(impl.MaxText)...)), op(keep(n), put(letters(impl.MaxText-n)...))}
		for _, o := range append(failsOn(n), large...) {
			refusesPast(t, slices.Insert(slices.Clone(ops), at, o), b)
			refusesPast(t, append(slices.Clone(ops[:at]), o), b)
		}
		l := slices.Insert(slices.Clone(ops), at, op(keep(n)))
		if got, ok := impl.Past(l, b); !ok || !alike(got, becomes[len(ops)]) {
			t.Errorf("Past(%v, %v): %v %v", l, b, got, ok)
		}
		checkPast(t, l, b)
	}
}

// TestP13PastTooMuch has one operation among the others, and later its
// inverse, that just fits beside what b inserts, or is too large by one.
func TestP13PastTooMuch(t *testing.T) {
	ops, texts := chain()
	b := op(keep(3), put(numbered(150)...))
	for at, text := range texts {
		n := len(text)
		for more := range 2 {
			puts := letters(50 - n + more)
			there, back := op(put(puts...), keep(n)), op(drop(len(puts)), keep(n))
			l := slices.Insert(slices.Clone(ops), at, there, back)
			if more == 0 {
				checkPast(t, l, b)
				continue
			}
			if !impl.OpOk(there) || !impl.OpOk(back) {
				t.Fatalf("%v is refused for another reason", l)
			}
			refusesPast(t, l, b)
		}
	}
}

func TestP13TransformNilAndEmptyAreEqual(t *testing.T) {
	for _, c := range transformCases() {
		for _, one := range [][]int{nil, {}} {
			for _, two := range [][]int{nil, {}} {
				a, b := emptied(c.a, one), emptied(c.b, two)
				if x, y, ok := impl.Transform(a, b); !ok || !alike(x, c.x) || !alike(y, c.y) {
					t.Errorf("Transform(%v, %v): %v %v %v, not %v %v", a, b, x, y, ok, c.x, c.y)
				}
				checkPast(t, [][]impl.Part{a}, b)
			}
		}
	}
	for _, a := range [][]impl.Part{nil, {}} {
		for _, b := range [][]impl.Part{nil, {}} {
			if x, y, ok := impl.Transform(a, b); !ok || len(x)+len(y) != 0 {
				t.Errorf("Transform without parts: %v %v %v", x, y, ok)
			}
			if got, ok := impl.Past([][]impl.Part{a, a}, b); !ok || len(got) != 0 {
				t.Errorf("Past without parts: %v %v", got, ok)
			}
			if got, ok := impl.PastAll([][]impl.Part{a, a}, b); !ok || !alikeAll(got, [][]impl.Part{nil, nil}) {
				t.Errorf("PastAll without parts: %v %v", got, ok)
			}
		}
	}
}

// refusedPairs are pairs of operations that cannot be transformed.
func refusedPairs() []transformCase {
	good := op(put(97), keep(3), drop(1))
	l := append(tooLarge(), transformCase{a: good, b: op(keep(3))}, transformCase{a: op(keep(5)), b: good})
	for _, bad := range notOk() {
		l = append(l, transformCase{a: bad, b: good}, transformCase{a: good, b: bad})
	}
	return l
}

func TestP13TransformArgumentsAreNotChanged(t *testing.T) {
	for _, c := range append(transformCases(), refusedPairs()...) {
		a, keptA := sparedOp(c.a)
		b, keptB := sparedOp(c.b)
		impl.Transform(a, b)
		impl.Transform(b, a)
		impl.Transform(a, a)
		l, kept := sparedOps([][]impl.Part{c.a, c.b})
		impl.Past(l, b)
		impl.PastAll(l, b)
		impl.Past(l[:1], b)
		impl.PastAll(l[:1], b)
		impl.Past(nil, a)
		if !keptA() || !keptB() || !kept() {
			t.Errorf("an argument was changed: %v, %v", c.a, c.b)
		}
	}
	ops, _ := chain()
	own, _ := chainPast()
	for _, all := range [][][]impl.Part{ops, append(ops, op(keep(1)), op(keep(9))), nil} {
		l, kept := sparedOps(all)
		b, keptB := sparedOp(own)
		impl.Past(l, b)
		impl.PastAll(l, b)
		if !kept() || !keptB() {
			t.Errorf("an argument was changed: %v, %v", all, own)
		}
	}
}

// separateOps reports whether no two of the operations share memory. It
// overwrites all of them, up to their capacity.
func separateOps(l ...[]impl.Part) bool {
	var lists [][]int
	for _, o := range l {
		lists = append(lists, signLists(o)...)
	}
	if !separate(lists...) {
		return false
	}
	for i, o := range l {
		for j := range o[:cap(o)] {
			o[:cap(o)][j] = keep(i)
		}
	}
	for i, o := range l {
		for _, p := range o[:cap(o)] {
			if p.N != i {
				return false
			}
		}
	}
	return true
}

func TestP13TransformResultsShareNothing(t *testing.T) {
	for _, c := range transformCases() {
		a, keptA := sparedOp(c.a)
		b, keptB := sparedOp(c.b)
		spoiledX, spoiledY, _ := impl.Transform(a, b)
		x, y, _ := impl.Transform(a, b)
		if !separateOps(spoiledX, spoiledY) {
			t.Errorf("Transform(%v, %v): two results or two parts share memory", c.a, c.b)
		}
		if !keptA() || !keptB() || !alike(x, c.x) || !alike(y, c.y) {
			t.Errorf("Transform(%v, %v) shares memory with an argument or with another result", c.a, c.b)
		}
		spoilOp(a)
		spoilOp(b)
		if !alike(x, c.x) || !alike(y, c.y) {
			t.Errorf("Transform(%v, %v) depends on its arguments after the call", c.a, c.b)
		}
	}
}

// TestP13TransformWithItselfSharesNothing: both results insert the characters
// of one argument, and later parts are not written over earlier ones.
func TestP13TransformWithItselfSharesNothing(t *testing.T) {
	own := op(put(letters(3)...), keep(1), put(letters(5)...), drop(1), keep(1), put(65))
	o, kept := sparedOp(own)
	x, y, ok := impl.Transform(o, o)
	wantX, wantY := stepwiseTransform(own, own)
	if !ok || !alike(x, wantX) || !alike(y, wantY) {
		t.Fatalf("Transform of %v with itself: %v %v %v", own, x, y, ok)
	}
	if !separateOps(x, y) || !kept() {
		t.Error("the results share memory with one another or with the argument")
	}
}

func TestP13PastResultsShareNothing(t *testing.T) {
	all, _ := chain()
	own, becomes := chainPast()
	for n, want := range becomes {
		l, kept := sparedOps(all[:n])
		b, keptB := sparedOp(own)
		spoiled, _ := impl.Past(l, b)
		others, _ := impl.PastAll(l, b)
		one, _ := impl.Past(l, b)
		rest, _ := impl.PastAll(l, b)
		if !separateOps(append(others, spoiled)...) {
			t.Errorf("past %v: two results or two parts share memory", all[:n])
		}
		clear(others[:cap(others)])
		if !kept() || !keptB() || !alike(one, want) || !alikeAll(rest, chainOthers()[:n]) {
			t.Errorf("past %v: memory is shared with an argument or with another result", all[:n])
		}
		for _, o := range append(slices.Clone(l), b) {
			spoilOp(o)
		}
		clear(l[:cap(l)])
		if !alike(one, want) || !alikeAll(rest, chainOthers()[:n]) {
			t.Errorf("past %v: the results depend on the arguments after the call", all[:n])
		}
	}
}

// TestP13TransformArgumentsOfOneList transforms operations whose parts and
// characters are parts of one list.
func TestP13TransformArgumentsOfOneList(t *testing.T) {
	all := letters(6)
	a := op(put(all[:2]...), keep(1), put(all[2:4]...), drop(1))
	b := op(keep(1), put(all[1:5]...), drop(1), put(all...))
	x, y, ok := impl.Transform(a, b)
	wantX := op(put(97, 98), keep(1), put(99, 100), keep(10))
	wantY := op(keep(5), put(98, 99, 100, 101, 97, 98, 99, 100, 101, 102))
	if !ok || !alike(x, wantX) || !alike(y, wantY) {
		t.Errorf("Transform(%v, %v): %v %v %v", a, b, x, y, ok)
	}
	parts := op(keep(2), put(all[:1]...), drop(2), put(all[4:]...), keep(2))
	x, y, ok = impl.Transform(parts[:3], parts[2:5])
	if !ok || !alike(x, op(put(97), keep(2), drop(2))) || !alike(y, op(drop(2), keep(1), put(101, 102))) {
		t.Errorf("Transform of two parts of one list: %v %v %v", x, y, ok)
	}
	if !slices.Equal(all, letters(6)) {
		t.Errorf("the characters became %v", all)
	}
}
