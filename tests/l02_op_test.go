package tests

import (
	"math"
	"math/rand"
	"slices"
	"testing"

	"loop.example/g00797/impl"
)

func keep(n int) impl.Part { return impl.Part{Kind: impl.PtKeep, N: n} }

func drop(n int) impl.Part { return impl.Part{Kind: impl.PtDrop, N: n} }

func put(l ...int) impl.Part { return impl.Part{Kind: impl.PtPut, Signs: l} }

func op(l ...impl.Part) []impl.Part { return l }

// letters returns n characters that differ from their neighbours.
func letters(n int) []int {
	l := make([]int, n)
	for i := range l {
		l[i] = 97 + i%26
	}
	return l
}

// repeated returns n copies of p, each with characters of its own.
func repeated(p impl.Part, n int) []impl.Part {
	var o []impl.Part
	for range n {
		o = append(o, impl.Part{Kind: p.Kind, N: p.N, Signs: slices.Clone(p.Signs)})
	}
	return o
}

// alike compares two operations field by field, without the program.
func alike(a []impl.Part, b []impl.Part) bool {
	return slices.EqualFunc(a, b, func(p impl.Part, q impl.Part) bool {
		return p.Kind == q.Kind && p.N == q.N && slices.Equal(p.Signs, q.Signs)
	})
}

// sparedOp returns a deep copy of o with spare capacity behind the parts and
// behind every part's characters, and a check that none of it was written.
func sparedOp(o []impl.Part) ([]impl.Part, func() bool) {
	var whole []impl.Part
	var checks []func() bool
	for _, p := range o {
		l, kept := spared(p.Signs)
		whole = append(whole, impl.Part{Kind: p.Kind, N: p.N, Signs: l})
		checks = append(checks, kept)
	}
	whole = append(whole, keep(7), put(55, 56), drop(8))
	wanted := append(slices.Clone(o), keep(7), put(55, 56), drop(8))
	return whole[:len(o)], func() bool {
		for _, kept := range checks {
			if !kept() {
				return false
			}
		}
		return alike(whole, wanted)
	}
}

// separate reports whether no two of the lists share memory. It fills all of
// them, up to their capacity, each with a number of its own.
func separate(lists ...[]int) bool {
	for i, l := range lists {
		for j := range l[:cap(l)] {
			l[:cap(l)][j] = i
		}
	}
	for i, l := range lists {
		for _, n := range l[:cap(l)] {
			if n != i {
				return false
			}
		}
	}
	return true
}

// signLists returns the characters of every part of o.
func signLists(o []impl.Part) [][]int {
	var lists [][]int
	for _, p := range o {
		lists = append(lists, p.Signs)
	}
	return lists
}

// stepwiseNorm follows the document's three steps one after the other.
func stepwiseNorm(o []impl.Part) []impl.Part {
	var some []impl.Part
	for _, p := range o {
		if p.N > 0 || len(p.Signs) > 0 {
			some = append(some, p)
		}
	}
	for at := 0; at < len(some); {
		end := at
		for end < len(some) && some[end].Kind != impl.PtKeep {
			end++
		}
		slices.SortStableFunc(some[at:end], func(a impl.Part, b impl.Part) int { return a.Kind - b.Kind })
		at = end + 1
	}
	var joined []impl.Part
	for _, p := range some {
		last := len(joined) - 1
		if last < 0 || joined[last].Kind != p.Kind {
			joined = append(joined, impl.Part{Kind: p.Kind})
			last++
		}
		joined[last].N += p.N
		joined[last].Signs = append(joined[last].Signs, p.Signs...)
	}
	return joined
}

// effect applies an operation to a text of the right length, part by part.
func effect(o []impl.Part, t []int) []int {
	var l []int
	for _, p := range o {
		switch p.Kind {
		case impl.PtKeep:
			l, t = append(l, t[:p.N]...), t[p.N:]
		case impl.PtPut:
			l = append(l, p.Signs...)
		case impl.PtDrop:
			t = t[p.N:]
		}
	}
	return append(l, t...)
}

// lengths returns what an operation of valid parts keeps, puts and drops.
func lengths(o []impl.Part) (int, int, int) {
	var sums [4]int
	for _, p := range o {
		sums[p.Kind] += p.N + len(p.Signs)
	}
	return sums[impl.PtKeep], sums[impl.PtPut], sums[impl.PtDrop]
}

// smallOps visits every operation of up to most parts, each of which keeps,
// puts or drops 0, 1 or 2 characters. The characters tell the parts apart.
func smallOps(most int, visit func(o []impl.Part)) {
	var grow func(o []impl.Part)
	grow = func(o []impl.Part) {
		visit(o)
		if len(o) == most {
			return
		}
		first := 97 + 2*len(o)
		for _, p := range op(keep(0), keep(1), keep(2), put(), put(first), put(first, first+1), drop(0), drop(1), drop(2)) {
			grow(append(slices.Clone(o), p))
		}
	}
	grow(nil)
}

// randomOp returns an operation of up to MaxParts parts that is OpOk.
func randomOp(r *rand.Rand) []impl.Part {
	var o []impl.Part
	from, to := 0, 0
	for range r.Intn(impl.MaxParts + 1) {
		n := max(0, r.Intn(6)-2)
		kind := 1 + r.Intn(3)
		if kind != impl.PtPut && from+n > impl.MaxText || kind != impl.PtDrop && to+n > impl.MaxText {
			n = 0
		}
		switch kind {
		case impl.PtKeep:
			o, from, to = append(o, keep(n)), from+n, to+n
		case impl.PtPut:
			l := make([]int, n)
			for i := range l {
				l[i] = r.Intn(55296)
			}
			o, to = append(o, put(l...)), to+n
		case impl.PtDrop:
			o, from = append(o, drop(n)), from+n
		}
	}
	return o
}

// goodParts lie within every limit of a part.
func goodParts() []impl.Part {
	l := op(put(0), put(97), put(55295, 57344, impl.MaxSign), put(letters(impl.MaxText-1)...), put(letters(impl.MaxText)...))
	for _, none := range [][]int{nil, {}} {
		l = append(l, impl.Part{Kind: impl.PtPut, Signs: none})
		for _, kind := range []int{impl.PtKeep, impl.PtDrop} {
			for _, n := range []int{0, 1, 2, impl.MaxText - 1, impl.MaxText} {
				l = append(l, impl.Part{Kind: kind, N: n, Signs: none})
			}
		}
	}
	return l
}

// badParts lie beyond every limit of a part.
func badParts() []impl.Part {
	var l []impl.Part
	for _, kind := range []int{impl.PtKeep, impl.PtDrop} {
		for _, n := range []int{-1, -2, -impl.MaxText, math.MinInt, impl.MaxText + 1, 1 << 32, 1<<32 + 1, math.MaxInt} {
			l = append(l, impl.Part{Kind: kind, N: n})
		}
		for _, n := range []int{0, 1, impl.MaxText} {
			l = append(l, impl.Part{Kind: kind, N: n, Signs: []int{97}}, impl.Part{Kind: kind, N: n, Signs: letters(n + 1)})
		}
	}
	for _, n := range []int{1, 2, impl.MaxText, impl.MaxText + 1, -1, math.MinInt, math.MaxInt} {
		l = append(l, impl.Part{Kind: impl.PtPut, N: n}, impl.Part{Kind: impl.PtPut, N: n, Signs: []int{97}}, impl.Part{Kind: impl.PtPut, N: n, Signs: []int{97, 98}})
	}
	for _, kind := range []int{0, 4, 5, -1, -2, -3, 1<<32 + 1, 1<<32 + 2, math.MinInt, math.MaxInt} {
		l = append(l, impl.Part{Kind: kind}, impl.Part{Kind: kind, N: 1}, impl.Part{Kind: kind, Signs: []int{97}})
	}
	for _, n := range notSigns() {
		full := letters(impl.MaxText)
		full[impl.MaxText-1] = n
		l = append(l, put(n), put(n, 97), put(97, n), put(97, n, 98), put(full...))
	}
	return append(l, put(letters(impl.MaxText+1)...), put(letters(2*impl.MaxText)...))
}

// tooLong are operations of valid parts that are not OpOk.
func tooLong() [][]impl.Part {
	return [][]impl.Part{
		op(keep(impl.MaxText), keep(1)),
		op(keep(1), keep(impl.MaxText)),
		op(drop(impl.MaxText), drop(1)),
		op(keep(impl.MaxText), drop(1)),
		op(drop(1), keep(impl.MaxText)),
		op(put(letters(impl.MaxText)...), put(97)),
		op(put(97), keep(impl.MaxText)),
		op(keep(impl.MaxText), put(97)),
		op(drop(impl.MaxText), put(letters(impl.MaxText)...), keep(1)),
		op(keep(100), put(letters(50)...), keep(50), put(97)),
		op(keep(100), drop(100), keep(0), drop(1)),
		repeated(keep(1), impl.MaxText+1),
		repeated(drop(1), impl.MaxText+1),
		repeated(put(97), impl.MaxText+1),
		repeated(keep(0), impl.MaxParts+1),
		repeated(put(), impl.MaxParts+1),
		append(repeated(drop(0), impl.MaxParts), keep(5)),
		repeated(keep(0), 4*impl.MaxParts),
	}
}

// notOk are operations that are not OpOk: too long, or with a bad part alone or
// at every place of a good operation on four characters.
func notOk() [][]impl.Part {
	l := tooLong()
	good := op(keep(2), put(97, 98), drop(2))
	for _, p := range badParts() {
		l = append(l, op(p), op(p, p))
		for at := range len(good) + 1 {
			l = append(l, slices.Insert(slices.Clone(good), at, p))
		}
	}
	return l
}

func TestP13OpConstants(t *testing.T) {
	if impl.MaxText != 200 || impl.MaxParts != 600 {
		t.Error("MaxText or MaxParts differs from the document")
	}
	if impl.PtKeep != 1 || impl.PtPut != 2 || impl.PtDrop != 3 {
		t.Error("a kind of parts differs from the document")
	}
}

func TestP13PartOk(t *testing.T) {
	for _, p := range goodParts() {
		if !impl.PartOk(p) {
			t.Errorf("PartOk(%v) is false", p)
		}
	}
	for _, p := range badParts() {
		if impl.PartOk(p) {
			t.Errorf("PartOk(%v) is true", p)
		}
	}
	if impl.PartOk(impl.Part{}) {
		t.Error("the zero value is a part")
	}
}

func TestP13OpFromAndOpTo(t *testing.T) {
	cases := []struct {
		o        []impl.Part
		from, to int
	}{
		{nil, 0, 0},
		{op(), 0, 0},
		{op(keep(0), put(), drop(0)), 0, 0},
		{op(keep(3)), 3, 3},
		{op(put(97, 98)), 0, 2},
		{op(drop(4)), 4, 0},
		{op(keep(1), put(97, 98), drop(4), keep(8)), 13, 11},
		{op(drop(1), drop(2), put(97), put(98, 99)), 3, 3},
		{op(keep(impl.MaxText)), 200, 200},
		{op(put(letters(impl.MaxText)...), drop(impl.MaxText)), 200, 200},
		{op(keep(impl.MaxText), keep(1)), 201, 201},
		{op(keep(impl.MaxText), drop(1)), 201, 200},
		{op(keep(impl.MaxText), put(97)), 200, 201},
		{op(keep(impl.MaxText), keep(impl.MaxText), drop(impl.MaxText)), 600, 400},
		{repeated(keep(impl.MaxText), impl.MaxParts), 120000, 120000},
		{repeated(drop(impl.MaxText), impl.MaxParts), 120000, 0},
		{repeated(put(letters(impl.MaxText)...), impl.MaxParts), 0, 120000},
		{repeated(keep(1), impl.MaxParts+1), 0, 0},
		{repeated(drop(1), impl.MaxParts+1), 0, 0},
		{repeated(put(97), impl.MaxParts+1), 0, 0},
		{append(op(keep(1), put(97), drop(1)), repeated(keep(0), impl.MaxParts-3)...), 2, 2},
		{append(op(keep(1), put(97), drop(1)), repeated(keep(0), impl.MaxParts-2)...), 0, 0},
	}
	for _, c := range cases {
		if from, to := impl.OpFrom(c.o), impl.OpTo(c.o); from != c.from || to != c.to {
			t.Errorf("from %d to %d, not from %d to %d: %v", from, to, c.from, c.to, c.o)
		}
	}
}

func TestP13OpOkAtItsLimits(t *testing.T) {
	half := letters(impl.MaxText / 2)
	good := [][]impl.Part{
		nil,
		op(),
		op(keep(impl.MaxText)),
		op(drop(impl.MaxText)),
		op(put(letters(impl.MaxText)...)),
		op(drop(impl.MaxText), put(letters(impl.MaxText)...)),
		op(put(letters(impl.MaxText)...), drop(impl.MaxText)),
		op(put(half...), keep(100), drop(100)),
		op(drop(100), keep(100), put(half...)),
		op(put(half...), drop(50), put(half...), drop(150)),
		repeated(keep(1), impl.MaxText),
		repeated(drop(1), impl.MaxText),
		repeated(put(97), impl.MaxText),
		repeated(keep(0), impl.MaxParts),
		repeated(put(), impl.MaxParts),
		repeated(drop(0), impl.MaxParts),
		append(repeated(drop(0), impl.MaxParts-1), keep(impl.MaxText)),
		append(append(repeated(keep(1), 200), repeated(put(), 200)...), repeated(drop(0), 200)...),
	}
	for _, o := range good {
		if !impl.OpOk(o) {
			t.Errorf("OpOk(%v) is false", o)
		}
	}
	for _, o := range tooLong() {
		if impl.OpOk(o) {
			t.Errorf("OpOk(%v) is true", o)
		}
	}
}

// TestP13OpsWithABadPart puts every bad part at the beginning, in the middle
// and at the end of an operation that is valid without it.
func TestP13OpsWithABadPart(t *testing.T) {
	good := op(keep(2), put(97, 98), drop(1))
	for _, bad := range badParts() {
		ops := [][]impl.Part{op(bad), op(bad, bad)}
		for at := range len(good) + 1 {
			ops = append(ops, slices.Insert(slices.Clone(good), at, bad))
		}
		for _, o := range ops {
			if impl.OpOk(o) || impl.IsNorm(o) || len(impl.OpNorm(o)) != 0 {
				t.Errorf("%v is accepted", o)
			}
			if impl.OpFrom(o) != 0 || impl.OpTo(o) != 0 || impl.Puts(o) != 0 || impl.Drops(o) != 0 {
				t.Errorf("%v has a length", o)
			}
		}
	}
}

func TestP13OpsThatAreTooLong(t *testing.T) {
	for _, o := range tooLong() {
		if n := impl.OpNorm(o); len(n) != 0 {
			t.Errorf("OpNorm(%v): %v", o, n)
		}
		if impl.IsNorm(o) {
			t.Errorf("IsNorm(%v) is true", o)
		}
		if impl.Puts(o) != 0 || impl.Drops(o) != 0 {
			t.Errorf("Puts and Drops of %v: %d %d", o, impl.Puts(o), impl.Drops(o))
		}
	}
}

// normCases are operations with their normal forms written out.
func normCases() [][2][]impl.Part {
	return [][2][]impl.Part{
		{nil, nil},
		{op(keep(0)), nil},
		{op(put()), nil},
		{op(drop(0)), nil},
		{op(keep(0), put(), drop(0), put(), keep(0)), nil},
		{op(put(97), drop(1)), op(put(97), drop(1))},
		{op(drop(1), put(97)), op(put(97), drop(1))},
		{op(put(97), put(98), drop(1)), op(put(97, 98), drop(1))},
		{op(put(97), drop(1), put(98)), op(put(97, 98), drop(1))},
		{op(drop(1), put(97), put(98)), op(put(97, 98), drop(1))},
		{op(put(97), drop(1), drop(2)), op(put(97), drop(3))},
		{op(drop(1), put(97), drop(2)), op(put(97), drop(3))},
		{op(drop(1), drop(2), put(97)), op(put(97), drop(3))},
		{op(put(98), drop(1), put(97), drop(2), put(99)), op(put(98, 97, 99), drop(3))},
		{op(drop(1), put(97), keep(1), drop(1), put(98)), op(put(97), drop(1), keep(1), put(98), drop(1))},
		{op(drop(1), keep(1), put(97)), op(drop(1), keep(1), put(97))},
		{op(put(97), keep(1), put(98)), op(put(97), keep(1), put(98))},
		{op(drop(1), keep(1), drop(2)), op(drop(1), keep(1), drop(2))},
		{op(drop(1), keep(0), put(97)), op(put(97), drop(1))},
		{op(drop(1), keep(0), drop(2)), op(drop(3))},
		{op(put(97), keep(0), put(98)), op(put(97, 98))},
		{op(keep(1), put(), keep(2)), op(keep(3))},
		{op(keep(1), drop(0), keep(2)), op(keep(3))},
		{op(keep(1), drop(0), put(), keep(0), keep(2)), op(keep(3))},
		{op(keep(1), keep(2), keep(3)), op(keep(6))},
		{op(put(97), put(98, 99), put(97)), op(put(97, 98, 99, 97))},
		{op(drop(1), drop(2), drop(3)), op(drop(6))},
		{op(keep(0), put(97), keep(1)), op(put(97), keep(1))},
		{op(put(), keep(1), drop(0)), op(keep(1))},
		{op(drop(0), drop(1), keep(0)), op(drop(1))},
		{op(keep(2), drop(1), put(65), drop(1), keep(0), put(66), keep(3)), op(keep(2), put(65, 66), drop(2), keep(3))},
		{repeated(keep(1), impl.MaxText), op(keep(impl.MaxText))},
		{repeated(drop(1), impl.MaxText), op(drop(impl.MaxText))},
		{repeated(put(97, 98), impl.MaxText/2), op(put(slices.Repeat([]int{97, 98}, impl.MaxText/2)...))},
		{op(drop(impl.MaxText), put(letters(impl.MaxText)...)), op(put(letters(impl.MaxText)...), drop(impl.MaxText))},
		{slices.Concat(repeated(drop(1), 200), repeated(keep(0), 200), repeated(put(97), 200)), op(put(slices.Repeat([]int{97}, 200)...), drop(200))},
		{repeated(keep(0), impl.MaxParts), nil},
		{append(repeated(put(), impl.MaxParts-1), keep(1)), op(keep(1))},
	}
}

func TestP4NormalForms(t *testing.T) {
	for _, c := range normCases() {
		if got := impl.OpNorm(c[0]); !alike(got, c[1]) {
			t.Errorf("OpNorm(%v): %v, not %v", c[0], got, c[1])
		}
		if impl.IsNorm(c[0]) != alike(c[0], c[1]) {
			t.Errorf("IsNorm(%v): %v", c[0], impl.IsNorm(c[0]))
		}
		if !impl.IsNorm(c[1]) || !alike(impl.OpNorm(c[1]), c[1]) {
			t.Errorf("%v is not its own normal form", c[1])
		}
	}
}

// checkNorm checks all that the document says of the normal form of o.
func checkNorm(t *testing.T, o []impl.Part) {
	t.Helper()
	n, want := impl.OpNorm(o), stepwiseNorm(o)
	if !alike(n, want) {
		t.Fatalf("OpNorm(%v): %v, not %v", o, n, want)
	}
	if impl.IsNorm(o) != alike(o, want) || !impl.IsNorm(n) || !alike(impl.OpNorm(n), n) {
		t.Fatalf("IsNorm of %v or of its normal form", o)
	}
	kept, puts, drops := lengths(o)
	text := letters(kept + drops)
	if !slices.Equal(effect(o, text), effect(n, text)) {
		t.Fatalf("%v has another effect than %v", n, o)
	}
	if impl.OpFrom(n) != impl.OpFrom(o) || impl.OpTo(n) != impl.OpTo(o) || impl.Puts(n) != puts || impl.Drops(n) != drops {
		t.Fatalf("%v has other lengths than %v", n, o)
	}
}

func TestP4NormalFormsOfSmallOps(t *testing.T) {
	smallOps(5, func(o []impl.Part) { checkNorm(t, o) })
}

func TestP4NormalFormsOfRandomOps(t *testing.T) {
	r := rand.New(rand.NewSource(3))
	for range 2000 {
		checkNorm(t, randomOp(r))
	}
}

func TestP13IsNormOfNoNormalForm(t *testing.T) {
	bad := [][]impl.Part{
		op(keep(0)), op(put()), op(drop(0)),
		op(keep(1), keep(0)), op(drop(0), keep(1)), op(keep(1), put(), keep(1)),
		op(keep(1), keep(1)), op(put(97), put(98)), op(drop(1), drop(1)),
		op(drop(1), put(97)), op(keep(1), drop(1), put(97), keep(1)),
		op(put(97), drop(1), put(98)), op(drop(1), put(97), drop(1)),
	}
	for _, o := range bad {
		if impl.IsNorm(o) {
			t.Errorf("IsNorm(%v) is true", o)
		}
	}
}

func TestP13OpSame(t *testing.T) {
	none := []int{}
	same := [][2][]impl.Part{
		{nil, nil}, {nil, op()}, {op(), nil},
		{op(keep(1)), op(impl.Part{Kind: impl.PtKeep, N: 1, Signs: none})},
		{op(put()), op(impl.Part{Kind: impl.PtPut, Signs: none})},
		{op(keep(1), put(97, 98), drop(2)), op(keep(1), put(97, 98), drop(2))},
		{op(impl.Part{Kind: 9, N: -4, Signs: []int{-1}}), op(impl.Part{Kind: 9, N: -4, Signs: []int{-1}})},
		{repeated(keep(0), impl.MaxParts+1), repeated(keep(0), impl.MaxParts+1)},
	}
	for _, p := range same {
		if !impl.OpSame(p[0], p[1]) || !impl.OpSame(p[1], p[0]) {
			t.Errorf("%v and %v differ", p[0], p[1])
		}
	}
	differ := [][2][]impl.Part{
		{nil, op(keep(0))}, {nil, op(impl.Part{})}, {op(keep(0)), op(drop(0))}, {op(keep(0)), op(put())},
		{op(keep(1)), op(keep(2))}, {op(keep(1)), op(drop(1))}, {op(keep(1)), op(keep(1), keep(0))},
		{op(keep(2)), op(keep(1), keep(1))}, {op(put(97), drop(1)), op(drop(1), put(97))},
		{op(put(97)), op(put(98))}, {op(put(97)), op(put(97, 98))}, {op(put(97, 98)), op(put(98, 97))},
		{op(put(97), put(98)), op(put(97, 98))}, {op(put(97)), op(put(97 + 1<<32))},
		{op(impl.Part{Kind: impl.PtPut, N: 1, Signs: []int{97}}), op(put(97))},
		{op(impl.Part{Kind: impl.PtKeep, N: 1, Signs: []int{97}}), op(keep(1))},
		{op(impl.Part{Kind: 9, N: -4}), op(impl.Part{Kind: 9, N: -5})},
		{op(keep(1), put(97), drop(2)), op(keep(1), put(97), drop(3))},
		{op(keep(1), put(97), drop(2)), op(keep(0), put(97), drop(2))},
		{repeated(keep(0), impl.MaxParts), repeated(keep(0), impl.MaxParts+1)},
	}
	for _, p := range differ {
		if impl.OpSame(p[0], p[1]) || impl.OpSame(p[1], p[0]) {
			t.Errorf("%v and %v are equal", p[0], p[1])
		}
	}
	o := op(keep(1), put(97), keep(1), put(97))
	if !impl.OpSame(o, o) || impl.OpSame(o, o[:2]) || !impl.OpSame(o[:2], o[2:]) {
		t.Error("parts of one slice")
	}
}

// TestP13OpSameOfSmallOps compares every two operations of up to two parts.
func TestP13OpSameOfSmallOps(t *testing.T) {
	var all [][]impl.Part
	smallOps(2, func(o []impl.Part) { all = append(all, o) })
	for i, a := range all {
		for j, b := range all {
			if impl.OpSame(a, b) != (i == j) {
				t.Fatalf("OpSame(%v, %v) is %v", a, b, i != j)
			}
		}
	}
}

func TestP13NilAndEmptyAreEqual(t *testing.T) {
	for _, kind := range []int{impl.PtKeep, impl.PtDrop} {
		absent := op(impl.Part{Kind: kind, N: 3, Signs: nil})
		empty := op(impl.Part{Kind: kind, N: 3, Signs: []int{}})
		if !impl.OpSame(absent, empty) || !impl.IsNorm(absent) || !impl.IsNorm(empty) {
			t.Errorf("kind %d: nil and empty characters differ", kind)
		}
		if !alike(impl.OpNorm(absent), impl.OpNorm(empty)) {
			t.Errorf("kind %d: nil and empty characters have two normal forms", kind)
		}
	}
	for _, o := range [][]impl.Part{nil, {}} {
		if !impl.OpOk(o) || !impl.IsNorm(o) || len(impl.OpNorm(o)) != 0 {
			t.Error("an operation without parts is refused")
		}
		if impl.OpFrom(o) != 0 || impl.OpTo(o) != 0 || impl.Puts(o) != 0 || impl.Drops(o) != 0 {
			t.Error("an operation without parts has a length")
		}
	}
}

func TestP13Keeping(t *testing.T) {
	for n := range impl.MaxText + 1 {
		var want []impl.Part
		if n > 0 {
			want = op(keep(n))
		}
		got := impl.Keeping(n)
		if !alike(got, want) || !impl.IsNorm(got) || impl.OpFrom(got) != n || impl.OpTo(got) != n {
			t.Errorf("Keeping(%d): %v", n, got)
		}
	}
	for _, n := range []int{-1, -2, -impl.MaxText, math.MinInt, impl.MaxText + 1, 2 * impl.MaxText, 1 << 32, 1<<32 + 1, math.MaxInt} {
		if got := impl.Keeping(n); len(got) != 0 {
			t.Errorf("Keeping(%d): %v", n, got)
		}
	}
}

func TestP13PutsAndDrops(t *testing.T) {
	cases := []struct {
		o           []impl.Part
		puts, drops int
	}{
		{op(keep(5)), 0, 0},
		{op(put(97, 98)), 2, 0},
		{op(drop(3)), 0, 3},
		{op(put(), drop(0), keep(0)), 0, 0},
		{op(put(97), keep(7), put(98, 99), drop(2), put(97), drop(4)), 4, 6},
		{op(drop(impl.MaxText), put(letters(impl.MaxText)...)), 200, 200},
		{append(repeated(put(97), 200), repeated(drop(1), 200)...), 200, 200},
		{append(repeated(keep(0), impl.MaxParts-2), put(97), drop(1)), 1, 1},
		{append(repeated(keep(0), impl.MaxParts-1), put(97), drop(1)), 0, 0},
		{op(keep(impl.MaxText), drop(1)), 0, 0},
		{op(drop(1), put(letters(impl.MaxText)...), put(97)), 0, 0},
	}
	for _, c := range cases {
		if puts, drops := impl.Puts(c.o), impl.Drops(c.o); puts != c.puts || drops != c.drops {
			t.Errorf("Puts %d and Drops %d, not %d and %d: %v", puts, drops, c.puts, c.drops, c.o)
		}
	}
	smallOps(4, func(o []impl.Part) {
		_, puts, drops := lengths(o)
		if impl.Puts(o) != puts || impl.Drops(o) != drops {
			t.Fatalf("Puts and Drops of %v: %d %d", o, impl.Puts(o), impl.Drops(o))
		}
	})
}

// callAll calls every function of the chapter that takes an operation.
func callAll(a []impl.Part, b []impl.Part) {
	for _, p := range a {
		impl.PartOk(p)
	}
	impl.OpFrom(a)
	impl.OpTo(a)
	impl.OpOk(a)
	impl.OpNorm(a)
	impl.IsNorm(a)
	impl.OpSame(a, b)
	impl.Puts(a)
	impl.Drops(a)
}

func TestP13OpArgumentsAreNotChanged(t *testing.T) {
	ops := tooLong()
	for _, c := range normCases() {
		ops = append(ops, c[0])
	}
	for _, p := range badParts() {
		ops = append(ops, op(keep(1), p, put(97)))
	}
	for _, o := range ops {
		a, keptA := sparedOp(o)
		b, keptB := sparedOp(o)
		callAll(a, b)
		if !keptA() || !keptB() {
			t.Errorf("an argument %v was changed", o)
		}
	}
}

// TestP13OpPartsOfOneList normalizes parts whose characters are neighbours in
// memory: to append to the first ones would overwrite the next ones.
func TestP13OpPartsOfOneList(t *testing.T) {
	all := letters(6)
	o := op(put(all[:2]...), put(all[2:4]...), drop(1), put(all[4:]...), keep(1), put(all[:3]...), put(all[1:2]...))
	want := op(put(97, 98, 99, 100, 101, 102), drop(1), keep(1), put(97, 98, 99, 98))
	if got := impl.OpNorm(o); !alike(got, want) {
		t.Errorf("OpNorm(%v): %v", o, got)
	}
	if !slices.Equal(all, letters(6)) {
		t.Errorf("the characters became %v", all)
	}
}

func TestP13OpResultsShareNothing(t *testing.T) {
	r := rand.New(rand.NewSource(4))
	var ops [][]impl.Part
	for _, c := range normCases() {
		ops = append(ops, c[0], c[1])
	}
	for range 200 {
		ops = append(ops, randomOp(r))
	}
	for _, o := range ops {
		want := stepwiseNorm(o)
		a, kept := sparedOp(o)
		first, second := impl.OpNorm(a), impl.OpNorm(a)
		if !separate(signLists(first)...) {
			t.Errorf("OpNorm(%v): two parts share memory", o)
		}
		clear(first[:cap(first)])
		if !kept() || !alike(second, want) {
			t.Errorf("OpNorm(%v) shares memory with its argument or with another result", o)
		}
		for _, p := range a {
			clear(p.Signs)
		}
		clear(a)
		if !alike(second, want) {
			t.Errorf("OpNorm(%v) depends on its argument after the call", o)
		}
	}
	one, two := impl.Keeping(5), impl.Keeping(5)
	clear(one[:cap(one)])
	if !alike(two, op(keep(5))) || !alike(impl.Keeping(5), two) {
		t.Error("two results of Keeping share memory")
	}
}
