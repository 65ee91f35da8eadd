package tests

import (
	"math/rand"
	"slices"
	"testing"

	"loop.example/g00797/impl"
)

// numbered returns n characters that all differ, also from those of letters.
func numbered(n int) []int {
	l := make([]int, n)
	for i := range l {
		l[i] = 1000 + i
	}
	return l
}

// badTexts are not TextOk: too long, or with an element that is no character
// at the beginning, in the middle or at the end.
func badTexts() [][]int {
	l := [][]int{numbered(impl.MaxText + 1), numbered(impl.MaxText + 2), numbered(2 * impl.MaxText), numbered(100000)}
	for _, n := range notSigns() {
		full := numbered(impl.MaxText)
		full[impl.MaxText-1] = n
		long := numbered(impl.MaxText + 1)
		long[impl.MaxText] = n
		l = append(l, []int{n}, []int{n, 97, 98}, []int{97, n, 98}, []int{97, 98, n}, full, long)
	}
	return l
}

// opText is an operation with a text.
type opText struct {
	o []impl.Part
	t []int
}

// applyCase has the result and the inverse written out.
type applyCase struct {
	opText
	result  []int
	inverse []impl.Part
}

func applyCases() []applyCase {
	abc := []int{97, 98, 99}
	return []applyCase{
		{opText{nil, nil}, nil, nil},
		{opText{op(), []int{}}, nil, nil},
		{opText{op(keep(0), put(), drop(0)), nil}, nil, nil},
		{opText{op(keep(3)), abc}, abc, op(keep(3))},
		{opText{op(keep(1), keep(2)), abc}, abc, op(keep(3))},
		{opText{op(drop(3)), abc}, nil, op(put(97, 98, 99))},
		{opText{op(drop(1), keep(0), drop(2)), abc}, nil, op(put(97, 98, 99))},
		{opText{op(put(97, 98, 99)), nil}, abc, op(drop(3))},
		{opText{op(put(97), put(), put(98, 99)), nil}, abc, op(drop(3))},
		{opText{op(put(65), keep(3)), abc}, []int{65, 97, 98, 99}, op(drop(1), keep(3))},
		{opText{op(keep(3), put(65)), abc}, []int{97, 98, 99, 65}, op(keep(3), drop(1))},
		{opText{op(keep(1), put(65, 66), keep(2)), abc}, []int{97, 65, 66, 98, 99}, op(keep(1), drop(2), keep(2))},
		{opText{op(drop(1), keep(2)), abc}, []int{98, 99}, op(put(97), keep(2))},
		{opText{op(keep(2), drop(1)), abc}, []int{97, 98}, op(keep(2), put(99))},
		{opText{op(keep(1), drop(1), keep(1)), abc}, []int{97, 99}, op(keep(1), put(98), keep(1))},
		{opText{op(keep(1), put(65), drop(1), keep(1)), abc}, []int{97, 65, 99}, op(keep(1), put(98), drop(1), keep(1))},
		{opText{op(keep(1), drop(1), put(65), keep(1)), abc}, []int{97, 65, 99}, op(keep(1), put(98), drop(1), keep(1))},
		{opText{op(drop(3), put(65, 66)), abc}, []int{65, 66}, op(put(97, 98, 99), drop(2))},
		{opText{op(put(65, 66), drop(3)), abc}, []int{65, 66}, op(put(97, 98, 99), drop(2))},
		{opText{op(drop(1), put(65), drop(1), put(66), drop(1)), abc}, []int{65, 66}, op(put(97, 98, 99), drop(2))},
		{opText{op(drop(1), put(65), keep(1), drop(1), put(66)), abc}, []int{65, 98, 66}, op(put(97), drop(1), keep(1), put(99), drop(1))},
		{opText{op(drop(1), keep(0), put(65), keep(2)), abc}, []int{65, 98, 99}, op(put(97), drop(1), keep(2))},
		{opText{op(put(97), drop(1), keep(2)), abc}, abc, op(put(97), drop(1), keep(2))},
		{opText{op(keep(1), put(0, 55295, 57344, impl.MaxSign), drop(1)), []int{impl.MaxSign, 0}}, []int{impl.MaxSign, 0, 55295, 57344, impl.MaxSign}, op(keep(1), put(0), drop(4))},
	}
}

// fullCases lie at the limits of texts and operations.
func fullCases() []applyCase {
	full, other := numbered(impl.MaxText), letters(impl.MaxText)
	return []applyCase{
		{opText{op(keep(impl.MaxText)), full}, full, op(keep(impl.MaxText))},
		{opText{op(drop(impl.MaxText)), full}, nil, op(put(full...))},
		{opText{op(put(full...)), nil}, full, op(drop(impl.MaxText))},
		{opText{op(put(other...), drop(impl.MaxText)), full}, other, op(put(full...), drop(impl.MaxText))},
		{opText{op(drop(impl.MaxText), put(other...)), full}, other, op(put(full...), drop(impl.MaxText))},
		{opText{repeated(keep(1), impl.MaxText), full}, full, op(keep(impl.MaxText))},
		{opText{repeated(drop(1), impl.MaxText), full}, nil, op(put(full...))},
		{opText{repeated(put(97), impl.MaxText), nil}, slices.Repeat([]int{97}, impl.MaxText), op(drop(impl.MaxText))},
		{opText{repeated(keep(0), impl.MaxParts), nil}, nil, nil},
		{opText{append(repeated(put(), impl.MaxParts-1), keep(1)), full[:1]}, full[:1], op(keep(1))},
		{opText{append(op(drop(1)), repeated(drop(0), impl.MaxParts-1)...), full[:1]}, nil, op(put(1000))},
		{opText{op(put(other[:100]...), keep(100), drop(100)), full}, slices.Concat(other[:100], full[:100]), op(drop(100), keep(100), put(full[100:]...))},
		{opText{op(keep(impl.MaxText-1), put(65), drop(1)), full}, append(slices.Clone(full[:impl.MaxText-1]), 65), op(keep(impl.MaxText-1), put(full[impl.MaxText-1]), drop(1))},
	}
}

// misfits are operations with texts to which they do not apply.
func misfits() []opText {
	var l []opText
	good := op(keep(2), put(97, 98), drop(1))
	for _, bad := range badParts() {
		for at := range len(good) + 1 {
			o := slices.Insert(slices.Clone(good), at, bad)
			l = append(l, opText{o, nil}, opText{o, numbered(3)}, opText{o, numbered(4)})
		}
		l = append(l, opText{op(bad), nil}, opText{op(bad), numbered(1)})
	}
	for _, o := range tooLong() {
		for _, n := range []int{0, 1, 5, impl.MaxText - 1, impl.MaxText, impl.MaxText + 1} {
			l = append(l, opText{o, numbered(n)})
		}
	}
	for _, t := range badTexts() {
		for _, o := range [][]impl.Part{nil, op(keep(1)), op(keep(3)), op(drop(1)), op(drop(3)), op(put(97), keep(1), drop(2)), op(keep(impl.MaxText)), op(drop(impl.MaxText)), op(keep(impl.MaxText), keep(1)), op(drop(impl.MaxText), drop(1))} {
			l = append(l, opText{o, t})
		}
	}
	return append(l, wrongLengths()...)
}

// wrongLengths are valid operations whose OpFrom is one less and one more than
// the length of a valid text.
func wrongLengths() []opText {
	var l []opText
	for _, n := range []int{0, 1, 2, 3, 100, impl.MaxText - 1, impl.MaxText} {
		for _, o := range [][]impl.Part{op(keep(n)), op(drop(n)), op(drop(n), put(97)), op(keep(n/2), put(), drop(n-n/2)), op(drop(n/2), keep(0), keep(n-n/2))} {
			if n > 0 {
				l = append(l, opText{o, numbered(n - 1)}, opText{o, nil})
			}
			if n < impl.MaxText {
				l = append(l, opText{o, numbered(n + 1)}, opText{o, numbered(impl.MaxText)})
			}
		}
	}
	return append(l, opText{op(put(97)), numbered(1)}, opText{op(put(97, 98)), numbered(2)}, opText{op(drop(2), put(97)), numbered(1)})
}

// permuted visits every order of the parts of o.
func permuted(o []impl.Part, visit func(o []impl.Part)) {
	var grow func(done []impl.Part, left []impl.Part)
	grow = func(done []impl.Part, left []impl.Part) {
		if len(left) == 0 {
			visit(done)
		}
		for i, p := range left {
			grow(append(slices.Clone(done), p), slices.Delete(slices.Clone(left), i, i+1))
		}
	}
	grow(nil, o)
}

// stepwiseInvert inverts part by part and normalizes at the end.
func stepwiseInvert(o []impl.Part, t []int) []impl.Part {
	var l []impl.Part
	at := 0
	for _, p := range stepwiseNorm(o) {
		switch p.Kind {
		case impl.PtKeep:
			l, at = append(l, keep(p.N)), at+p.N
		case impl.PtPut:
			l = append(l, drop(len(p.Signs)))
		case impl.PtDrop:
			l, at = append(l, put(t[at:at+p.N]...)), at+p.N
		}
	}
	return stepwiseNorm(l)
}

// randomText returns n characters of all lengths of the encoding.
func randomText(r *rand.Rand, n int) []int {
	l := make([]int, n)
	for i := range l {
		l[i] = []int{r.Intn(128), r.Intn(2048), 57344 + r.Intn(8192), impl.MaxSign - r.Intn(65536)}[r.Intn(4)]
	}
	return l
}

// randomOpOn returns an operation on n characters that is OpOk.
func randomOpOn(r *rand.Rand, n int) []impl.Part {
	var o []impl.Part
	to := 0
	for left := n; left > 0 || r.Intn(2) == 0; {
		many := r.Intn(min(left, 30) + 1)
		switch r.Intn(3) {
		case 0:
			o, left, to = append(o, keep(many)), left-many, to+many
		case 1:
			o, left = append(o, drop(many)), left-many
		case 2:
			some := r.Intn(min(impl.MaxText-to-left, 20) + 1)
			o, to = append(o, put(randomText(r, some)...)), to+some
		}
	}
	return o
}

// checkApply checks all that the document says of Apply and Invert of o at t,
// an operation and a text that fit.
func checkApply(t *testing.T, o []impl.Part, text []int) {
	t.Helper()
	result, ok := impl.Apply(o, text)
	if want := effect(o, text); !ok || !slices.Equal(result, want) {
		t.Fatalf("Apply(%v, %v): %v %v, not %v", o, text, result, ok, want)
	}
	if len(result) != impl.OpTo(o) || !impl.TextOk(result) {
		t.Fatalf("Apply(%v, %v) has %d characters", o, text, len(result))
	}
	if normal, ok := impl.Apply(impl.OpNorm(o), text); !ok || !slices.Equal(normal, result) {
		t.Fatalf("the normal form of %v has another effect on %v: %v %v", o, text, normal, ok)
	}
	inverse, ok := impl.Invert(o, text)
	if want := stepwiseInvert(o, text); !ok || !alike(inverse, want) {
		t.Fatalf("Invert(%v, %v): %v %v, not %v", o, text, inverse, ok, want)
	}
	if back, ok := impl.Apply(inverse, result); !ok || !slices.Equal(back, text) {
		t.Fatalf("Invert(%v, %v) leads to %v %v", o, text, back, ok)
	}
	if twice, ok := impl.Invert(inverse, result); !ok || !alike(twice, stepwiseNorm(o)) {
		t.Fatalf("inverted twice, %v is %v %v", o, twice, ok)
	}
	if normal, ok := impl.Invert(impl.OpNorm(o), text); !ok || !alike(normal, inverse) {
		t.Fatalf("the normal form of %v has another inverse: %v %v", o, normal, ok)
	}
}

func TestP13TextOk(t *testing.T) {
	for _, text := range [][]int{nil, {}, {0}, {97}, {55295, 57344}, {impl.MaxSign}, numbered(impl.MaxText - 1), numbered(impl.MaxText), make([]int, impl.MaxText)} {
		if !impl.TextOk(text) {
			t.Errorf("TextOk(%v) is false", text)
		}
	}
	for _, text := range badTexts() {
		if impl.TextOk(text) {
			t.Errorf("TextOk of %d characters is true: %v", len(text), text[:min(len(text), 5)])
		}
	}
}

func TestP13ApplyAndInvert(t *testing.T) {
	for _, c := range append(applyCases(), fullCases()...) {
		if got, ok := impl.Apply(c.o, c.t); !ok || !slices.Equal(got, c.result) {
			t.Errorf("Apply(%v, %v): %v %v, not %v", c.o, c.t, got, ok, c.result)
		}
		if got, ok := impl.Invert(c.o, c.t); !ok || !alike(got, c.inverse) {
			t.Errorf("Invert(%v, %v): %v %v, not %v", c.o, c.t, got, ok, c.inverse)
		}
		checkApply(t, c.o, c.t)
	}
}

func TestP13ApplyAndInvertOfMisfits(t *testing.T) {
	for _, c := range misfits() {
		if got, ok := impl.Apply(c.o, c.t); ok || len(got) != 0 {
			t.Errorf("Apply(%v, %v): %v %v", c.o, c.t, got, ok)
		}
		if got, ok := impl.Invert(c.o, c.t); ok || len(got) != 0 {
			t.Errorf("Invert(%v, %v): %v %v", c.o, c.t, got, ok)
		}
	}
}

// TestP13ApplyNeedsTheLength applies one operation of every length to texts of
// all lengths.
func TestP13ApplyNeedsTheLength(t *testing.T) {
	for from := range impl.MaxText + 1 {
		o := op(drop(from/2), keep(from-from/2))
		for n := range impl.MaxText + 2 {
			_, applied := impl.Apply(o, numbered(n))
			_, inverted := impl.Invert(o, numbered(n))
			if applied != (n == from) || inverted != (n == from) {
				t.Fatalf("%v at %d characters: %v %v", o, n, applied, inverted)
			}
		}
	}
}

func TestP4ApplyAndInvertSmallOps(t *testing.T) {
	smallOps(5, func(o []impl.Part) {
		kept, _, drops := lengths(o)
		checkApply(t, o, numbered(kept+drops))
	})
}

func TestP4ApplyAndInvertRandomOps(t *testing.T) {
	r := rand.New(rand.NewSource(5))
	for range 1000 {
		o := randomOp(r)
		kept, _, drops := lengths(o)
		checkApply(t, o, randomText(r, kept+drops))
		n := r.Intn(impl.MaxText + 1)
		checkApply(t, randomOpOn(r, n), randomText(r, n))
	}
}

// withoutEffect are parts, one or several, that have none.
func withoutEffect() [][]impl.Part {
	return [][]impl.Part{op(keep(0)), op(put()), op(drop(0)), op(drop(0), keep(0), put(), keep(0))}
}

// TestP4PartsWithoutEffect puts such parts at the beginning, in the middle and
// at the end of operations.
func TestP4PartsWithoutEffect(t *testing.T) {
	for _, c := range applyCases() {
		for at := range len(c.o) + 1 {
			for _, none := range withoutEffect() {
				o := slices.Insert(slices.Clone(c.o), at, none...)
				if got, ok := impl.Apply(o, c.t); !ok || !slices.Equal(got, c.result) {
					t.Errorf("Apply(%v, %v): %v %v, not %v", o, c.t, got, ok, c.result)
				}
				if got, ok := impl.Invert(o, c.t); !ok || !alike(got, c.inverse) {
					t.Errorf("Invert(%v, %v): %v %v, not %v", o, c.t, got, ok, c.inverse)
				}
				if impl.Idle(o) != impl.Idle(c.o) {
					t.Errorf("Idle(%v) is %v", o, impl.Idle(o))
				}
			}
		}
	}
}

// TestP4RunsInEveryOrder deletes the same characters and inserts others, which
// appear in the order of their parts wherever the deletions are.
func TestP4RunsInEveryOrder(t *testing.T) {
	text := numbered(6)
	permuted(op(put(65), put(66, 67), put(68), drop(1), drop(2)), func(run []impl.Part) {
		var signs []int
		for _, p := range run {
			signs = append(signs, p.Signs...)
		}
		o := slices.Concat(op(keep(1)), run, op(keep(2)))
		want := slices.Concat(text[:1], signs, text[4:])
		if got, ok := impl.Apply(o, text); !ok || !slices.Equal(got, want) {
			t.Errorf("Apply(%v, %v): %v %v, not %v", o, text, got, ok, want)
		}
		inverse := op(keep(1), put(text[1:4]...), drop(4), keep(2))
		if got, ok := impl.Invert(o, text); !ok || !alike(got, inverse) {
			t.Errorf("Invert(%v, %v): %v %v, not %v", o, text, got, ok, inverse)
		}
		checkApply(t, o, text)
		checkApply(t, run, text[:3])
	})
}

// betweenCase has the operation from a to b written out.
type betweenCase struct {
	a, b []int
	want []impl.Part
}

func betweenCases() []betweenCase {
	full, other := numbered(impl.MaxText), letters(impl.MaxText)
	return []betweenCase{
		{nil, nil, nil},
		{nil, []int{}, nil},
		{[]int{97, 98, 99}, []int{97, 98, 99}, op(keep(3))},
		{nil, []int{97, 98}, op(put(97, 98))},
		{[]int{97, 98}, nil, op(drop(2))},
		{[]int{97, 98}, []int{97, 98, 99, 100}, op(keep(2), put(99, 100))},
		{[]int{97, 98, 99, 100}, []int{97, 98}, op(keep(2), drop(2))},
		{[]int{99, 100}, []int{97, 98, 99, 100}, op(put(97, 98), keep(2))},
		{[]int{97, 98, 99, 100}, []int{99, 100}, op(drop(2), keep(2))},
		{[]int{97, 98}, []int{99, 100, 101}, op(put(99, 100, 101), drop(2))},
		{[]int{97, 98, 99}, []int{97, 65, 66, 99}, op(keep(1), put(65, 66), drop(1), keep(1))},
		{[]int{97, 98, 99, 100}, []int{97, 99, 98, 100}, op(keep(1), put(99, 98), drop(2), keep(1))},
		{[]int{97, 98, 99, 98, 97}, []int{97, 65, 99, 66, 97}, op(keep(1), put(65, 99, 66), drop(3), keep(1))},
		{[]int{97}, []int{97, 97}, op(keep(1), put(97))},
		{[]int{97, 97}, []int{97}, op(keep(1), drop(1))},
		{[]int{97, 97, 97}, []int{97, 97, 97, 97, 97}, op(keep(3), put(97, 97))},
		{[]int{97, 97, 97, 97, 97}, []int{97, 97, 97}, op(keep(3), drop(2))},
		{[]int{97, 98, 97}, []int{97, 98, 97, 98, 97}, op(keep(3), put(98, 97))},
		{[]int{97, 98, 97, 98, 97}, []int{97, 98, 97}, op(keep(3), drop(2))},
		{[]int{97, 98, 98, 99}, []int{97, 98, 99}, op(keep(2), drop(1), keep(1))},
		{[]int{97, 98, 99}, []int{97, 98, 98, 99}, op(keep(2), put(98), keep(1))},
		{full, full, op(keep(impl.MaxText))},
		{nil, full, op(put(full...))},
		{full, nil, op(drop(impl.MaxText))},
		{full, other, op(put(other...), drop(impl.MaxText))},
		{full[:impl.MaxText-1], full, op(keep(impl.MaxText-1), put(full[impl.MaxText-1]))},
		{full[1:], full, op(put(full[0]), keep(impl.MaxText-1))},
		{full, slices.Concat(full[:99], full[100:]), op(keep(99), drop(1), keep(100))},
		{full, slices.Concat(full[:99], []int{0}, full[100:]), op(keep(99), put(0), drop(1), keep(100))},
	}
}

// longest returns the greatest number up to most that fits.
func longest(most int, fits func(n int) bool) int {
	for n := most; n > 0; n-- {
		if fits(n) {
			return n
		}
	}
	return 0
}

// stepwiseBetween looks for the longest prefix and then for the longest suffix
// of the rests by trying all lengths.
func stepwiseBetween(a []int, b []int) []impl.Part {
	head := longest(min(len(a), len(b)), func(n int) bool { return slices.Equal(a[:n], b[:n]) })
	restA, restB := a[head:], b[head:]
	tail := longest(min(len(restA), len(restB)), func(n int) bool {
		return slices.Equal(restA[len(restA)-n:], restB[len(restB)-n:])
	})
	return stepwiseNorm(op(keep(head), put(restB[:len(restB)-tail]...), drop(len(restA)-tail), keep(tail)))
}

func checkBetween(t *testing.T, a []int, b []int) {
	t.Helper()
	o, ok := impl.Between(a, b)
	if want := stepwiseBetween(a, b); !ok || !alike(o, want) {
		t.Fatalf("Between(%v, %v): %v %v, not %v", a, b, o, ok, want)
	}
	if got, ok := impl.Apply(o, a); !ok || !slices.Equal(got, b) {
		t.Fatalf("Between(%v, %v) leads to %v %v", a, b, got, ok)
	}
	if !impl.IsNorm(o) || impl.Idle(o) != slices.Equal(a, b) {
		t.Fatalf("Between(%v, %v) is not normal or wrongly idle: %v", a, b, o)
	}
}

// smallTexts returns all texts of up to most characters out of many.
func smallTexts(most int, many int) [][]int {
	all := [][]int{nil}
	last := all
	for range most {
		var next [][]int
		for _, text := range last {
			for n := range many {
				next = append(next, append(slices.Clone(text), 97+n))
			}
		}
		all, last = append(all, next...), next
	}
	return all
}

func TestP13Between(t *testing.T) {
	for _, c := range betweenCases() {
		if got, ok := impl.Between(c.a, c.b); !ok || !alike(got, c.want) {
			t.Errorf("Between(%v, %v): %v %v, not %v", c.a, c.b, got, ok, c.want)
		}
		checkBetween(t, c.a, c.b)
	}
}

func TestP13BetweenSmallTexts(t *testing.T) {
	for _, all := range [][][]int{smallTexts(6, 2), smallTexts(4, 3)} {
		for _, a := range all {
			for _, b := range all {
				checkBetween(t, a, b)
			}
		}
	}
}

func TestP13BetweenRandomTexts(t *testing.T) {
	r := rand.New(rand.NewSource(6))
	for range 1000 {
		a := randomText(r, r.Intn(impl.MaxText+1))
		b, _ := impl.Apply(randomOpOn(r, len(a)), a)
		checkBetween(t, a, b)
		checkBetween(t, a, randomText(r, r.Intn(impl.MaxText+1)))
	}
}

func TestP13BetweenBadTexts(t *testing.T) {
	for _, bad := range badTexts() {
		for _, p := range [][2][]int{{bad, nil}, {nil, bad}, {bad, {97, 98}}, {{97, 98}, bad}, {bad, bad}} {
			if got, ok := impl.Between(p[0], p[1]); ok || len(got) != 0 {
				t.Errorf("Between at %d and %d characters: %v %v", len(p[0]), len(p[1]), got, ok)
			}
		}
	}
}

// chain returns four operations, each of which applies to the result of the
// one before, with the texts between them. The first text is abc.
func chain() ([][]impl.Part, [][]int) {
	return [][]impl.Part{
		op(keep(1), put(65), drop(1), keep(1)),
		op(keep(3), put(66), put(67)),
		op(drop(1), keep(0), drop(2), keep(2)),
		op(put(68), keep(1), drop(1), put(69)),
	}, [][]int{
		{97, 98, 99},
		{97, 65, 99},
		{97, 65, 99, 66, 67},
		{66, 67},
		{68, 66, 69},
	}
}

func TestP13ApplyAll(t *testing.T) {
	ops, texts := chain()
	for from := range texts {
		for to := from; to < len(texts); to++ {
			got, ok := impl.ApplyAll(ops[from:to], texts[from])
			if !ok || !slices.Equal(got, texts[to]) {
				t.Errorf("ApplyAll(%v, %v): %v %v, not %v", ops[from:to], texts[from], got, ok, texts[to])
			}
		}
	}
	full := numbered(impl.MaxText)
	there := [][]impl.Part{op(put(full...)), op(keep(impl.MaxText)), op(drop(impl.MaxText)), nil, op(put(97))}
	if got, ok := impl.ApplyAll(there, nil); !ok || !slices.Equal(got, []int{97}) {
		t.Errorf("through a text of MaxText characters: %v %v", got, ok)
	}
	one, two := op(put(65), keep(1), drop(1)), op(put(66), keep(1), drop(1))
	if got, ok := impl.ApplyAll([][]impl.Part{one, two}, []int{97, 98}); !ok || !slices.Equal(got, []int{66, 65}) {
		t.Errorf("not in order: %v %v", got, ok)
	}
}

func TestP13ApplyAllWithoutOperations(t *testing.T) {
	for _, none := range [][][]impl.Part{nil, {}} {
		for _, text := range [][]int{nil, {}, {97}, {0, impl.MaxSign}, numbered(impl.MaxText)} {
			if got, ok := impl.ApplyAll(none, text); !ok || !slices.Equal(got, text) {
				t.Errorf("ApplyAll without operations at %v: %v %v", text, got, ok)
			}
		}
		for _, text := range badTexts() {
			if got, ok := impl.ApplyAll(none, text); ok || len(got) != 0 {
				t.Errorf("ApplyAll without operations at %d bad characters: %v %v", len(text), got, ok)
			}
		}
	}
}

// failsOn returns operations that do not apply to n characters, with n above 0,
// or are not OpOk.
func failsOn(n int) [][]impl.Part {
	return [][]impl.Part{
		op(keep(n + 1)), op(drop(n + 1)), op(keep(n - 1)), op(drop(n-1), put(97)), nil,
		op(keep(n), impl.Part{}), op(keep(n), put(-1)), op(keep(n), keep(0), drop(-1)),
		op(keep(n), put(letters(impl.MaxText)...)), append(op(keep(n)), repeated(keep(0), impl.MaxParts)...),
	}
}

// TestP13ApplyAllWithOneThatFails puts such an operation at the beginning, in
// the middle and at the end of a list that can be applied without it.
func TestP13ApplyAllWithOneThatFails(t *testing.T) {
	ops, texts := chain()
	for at, text := range texts {
		n := len(text)
		for _, o := range failsOn(n) {
			l := slices.Insert(slices.Clone(ops), at, o)
			if got, ok := impl.ApplyAll(l, texts[0]); ok || len(got) != 0 {
				t.Errorf("ApplyAll(%v, %v): %v %v", l, texts[0], got, ok)
			}
		}
		l := slices.Insert(slices.Clone(ops), at, op(keep(n)))
		if got, ok := impl.ApplyAll(l, texts[0]); !ok || !slices.Equal(got, texts[len(ops)]) {
			t.Errorf("ApplyAll(%v, %v): %v %v", l, texts[0], got, ok)
		}
	}
	for _, c := range misfits() {
		if got, ok := impl.ApplyAll([][]impl.Part{c.o}, c.t); ok || len(got) != 0 {
			t.Errorf("ApplyAll of %v at %v: %v %v", c.o, c.t, got, ok)
		}
	}
}

func TestP13ApplyAllRandom(t *testing.T) {
	r := rand.New(rand.NewSource(7))
	for range 300 {
		text := randomText(r, r.Intn(impl.MaxText+1))
		now := text
		var ops, back [][]impl.Part
		for range r.Intn(12) {
			o := randomOpOn(r, len(now))
			inverse, _ := impl.Invert(o, now)
			ops, back = append(ops, o), slices.Insert(back, 0, inverse)
			now = effect(o, now)
		}
		if got, ok := impl.ApplyAll(ops, text); !ok || !slices.Equal(got, now) {
			t.Fatalf("ApplyAll(%v, %v): %v %v, not %v", ops, text, got, ok, now)
		}
		if got, ok := impl.ApplyAll(back, now); !ok || !slices.Equal(got, text) {
			t.Fatalf("the inverses of %v lead to %v %v, not %v", ops, got, ok, text)
		}
	}
}

func TestP13Idle(t *testing.T) {
	idle := [][]impl.Part{
		nil, op(), op(keep(0)), op(put()), op(drop(0)), op(keep(0), put(), drop(0), put()),
		op(keep(1)), op(keep(3), keep(4)), op(keep(impl.MaxText)), op(put(), keep(2), drop(0), keep(1), put()),
		repeated(keep(1), impl.MaxText), repeated(drop(0), impl.MaxParts), append(repeated(put(), impl.MaxParts-1), keep(5)),
	}
	for _, o := range idle {
		if !impl.Idle(o) {
			t.Errorf("Idle(%v) is false", o)
		}
	}
	busy := [][]impl.Part{
		op(put(97)), op(drop(1)), op(put(97), drop(1)), op(keep(3), put(97)), op(keep(3), drop(1)), op(put(97), keep(3)), op(drop(1), keep(3)),
		op(keep(1), put(97), keep(1)), op(keep(1), drop(1), keep(1)), op(keep(0), put(0)), append(repeated(keep(0), impl.MaxParts-1), drop(1)),
		op(put(letters(impl.MaxText)...), drop(impl.MaxText)),
	}
	for _, o := range append(busy, tooLong()...) {
		if impl.Idle(o) {
			t.Errorf("Idle(%v) is true", o)
		}
	}
	for _, p := range badParts() {
		for _, o := range [][]impl.Part{op(p), op(p, keep(1)), op(keep(1), p, keep(1)), op(keep(1), p)} {
			if impl.Idle(o) {
				t.Errorf("Idle(%v) is true", o)
			}
		}
	}
	smallOps(4, func(o []impl.Part) {
		if _, puts, drops := lengths(o); impl.Idle(o) != (puts+drops == 0) {
			t.Fatalf("Idle(%v) is %v", o, impl.Idle(o))
		}
	})
}

// emptied returns o with none in the place of every empty list of characters.
func emptied(o []impl.Part, none []int) []impl.Part {
	l := slices.Clone(o)
	for i, p := range l {
		if len(p.Signs) == 0 {
			l[i].Signs = none
		}
	}
	return l
}

func TestP13ApplyNilAndEmptyAreEqual(t *testing.T) {
	for _, c := range applyCases() {
		for _, none := range [][]int{nil, {}} {
			o := emptied(c.o, none)
			text := append(none, c.t...)
			result, applied := impl.Apply(o, text)
			inverse, inverted := impl.Invert(o, text)
			if !applied || !inverted || !slices.Equal(result, c.result) || !alike(inverse, c.inverse) {
				t.Errorf("%v at %v: %v %v, %v %v", o, text, result, applied, inverse, inverted)
			}
		}
	}
	for _, none := range [][]int{nil, {}} {
		there, ok := impl.Between(none, []int{97})
		back, fine := impl.Between([]int{97}, none)
		if !ok || !fine || !alike(there, op(put(97))) || !alike(back, op(drop(1))) {
			t.Errorf("Between at an empty text: %v %v, %v %v", there, ok, back, fine)
		}
		for _, l := range [][][]impl.Part{nil, {}, {nil}, {{}}, {nil, {}}} {
			if got, ok := impl.ApplyAll(l, none); !ok || len(got) != 0 {
				t.Errorf("ApplyAll(%v) at an empty text: %v %v", l, got, ok)
			}
		}
	}
}

// sparedOps returns deep copies of the operations with spare capacity behind
// the list and behind each of them, and a check that none of it was written.
func sparedOps(l [][]impl.Part) ([][]impl.Part, func() bool) {
	var whole [][]impl.Part
	var checks []func() bool
	for _, o := range append(slices.Clone(l), op(keep(9)), op(put(99))) {
		copied, kept := sparedOp(o)
		whole, checks = append(whole, copied), append(checks, kept)
	}
	wanted := slices.Clone(whole)
	return whole[:len(l)], func() bool {
		for i, kept := range checks {
			if !kept() || !alike(whole[i], wanted[i]) {
				return false
			}
		}
		return true
	}
}

// fitsAndMisfits are operations with texts, of which some do not apply.
func fitsAndMisfits() []opText {
	l := misfits()
	for _, c := range append(applyCases(), fullCases()...) {
		l = append(l, c.opText)
	}
	return l
}

func TestP13ApplyArgumentsAreNotChanged(t *testing.T) {
	for _, c := range fitsAndMisfits() {
		o, keptOp := sparedOp(c.o)
		text, keptText := spared(c.t)
		impl.TextOk(text)
		impl.Apply(o, text)
		impl.Invert(o, text)
		impl.ApplyAll([][]impl.Part{o, o}, text)
		impl.Idle(o)
		if !keptOp() || !keptText() {
			t.Errorf("an argument was changed: %v, %v", c.o, c.t)
		}
	}
	for _, c := range betweenCases() {
		a, keptA := spared(c.a)
		b, keptB := spared(c.b)
		impl.Between(a, b)
		if !keptA() || !keptB() {
			t.Errorf("Between changed %v or %v", c.a, c.b)
		}
	}
	ops, texts := chain()
	for _, l := range [][][]impl.Part{ops, append(ops, op(keep(1)), op(keep(9))), nil} {
		copied, keptOps := sparedOps(l)
		text, keptText := spared(texts[0])
		impl.ApplyAll(copied, text)
		if !keptOps() || !keptText() {
			t.Errorf("ApplyAll changed %v or %v", l, texts[0])
		}
	}
}

// spoil overwrites a list of characters up to its capacity.
func spoil(l []int) {
	for i := range l[:cap(l)] {
		l[:cap(l)][i] = -7
	}
}

// spoilOp overwrites an operation and its characters up to their capacity.
func spoilOp(o []impl.Part) {
	for _, p := range o {
		spoil(p.Signs)
	}
	clear(o[:cap(o)])
}

func TestP13ApplyResultsShareNothing(t *testing.T) {
	for _, c := range append(applyCases(), fullCases()...) {
		o, keptOp := sparedOp(c.o)
		text, keptText := spared(c.t)
		spoiled, _ := impl.Apply(o, text)
		result, _ := impl.Apply(o, text)
		spoil(spoiled)
		if !keptOp() || !keptText() || !slices.Equal(result, c.result) {
			t.Errorf("Apply(%v, %v) shares memory with an argument or with another result", c.o, c.t)
		}
		spoilOp(o)
		spoil(text)
		if !slices.Equal(result, c.result) {
			t.Errorf("Apply(%v, %v) depends on its arguments after the call", c.o, c.t)
		}
	}
}

func TestP13InvertResultsShareNothing(t *testing.T) {
	for _, c := range append(applyCases(), fullCases()...) {
		o, keptOp := sparedOp(c.o)
		text, keptText := spared(c.t)
		spoiled, _ := impl.Invert(o, text)
		inverse, _ := impl.Invert(o, text)
		if !separate(signLists(spoiled)...) {
			t.Errorf("Invert(%v, %v): two parts share memory", c.o, c.t)
		}
		spoilOp(spoiled)
		if !keptOp() || !keptText() || !alike(inverse, c.inverse) {
			t.Errorf("Invert(%v, %v) shares memory with an argument or with another result", c.o, c.t)
		}
		spoilOp(o)
		spoil(text)
		if !alike(inverse, c.inverse) {
			t.Errorf("Invert(%v, %v) depends on its arguments after the call", c.o, c.t)
		}
	}
}

func TestP13BetweenResultsShareNothing(t *testing.T) {
	for _, c := range betweenCases() {
		a, keptA := spared(c.a)
		b, keptB := spared(c.b)
		spoiled, _ := impl.Between(a, b)
		o, _ := impl.Between(a, b)
		spoilOp(spoiled)
		if !keptA() || !keptB() || !alike(o, c.want) {
			t.Errorf("Between(%v, %v) shares memory with an argument or with another result", c.a, c.b)
		}
		spoil(a)
		spoil(b)
		if !alike(o, c.want) {
			t.Errorf("Between(%v, %v) depends on its arguments after the call", c.a, c.b)
		}
	}
}

func TestP13ApplyAllResultsShareNothing(t *testing.T) {
	all, texts := chain()
	for n := range texts {
		ops, keptOps := sparedOps(all[:n])
		text, keptText := spared(texts[0])
		spoiled, _ := impl.ApplyAll(ops, text)
		result, _ := impl.ApplyAll(ops, text)
		spoil(spoiled)
		if !keptOps() || !keptText() || !slices.Equal(result, texts[n]) {
			t.Errorf("ApplyAll(%v) shares memory with an argument or with another result", all[:n])
		}
		for _, o := range ops {
			spoilOp(o)
		}
		spoil(text)
		if !slices.Equal(result, texts[n]) {
			t.Errorf("ApplyAll(%v) depends on its arguments after the call", all[:n])
		}
	}
}

// TestP13ApplyArgumentsOfOneList passes texts and characters that are parts of
// one list.
func TestP13ApplyArgumentsOfOneList(t *testing.T) {
	all := letters(6)
	o := op(put(all[2:5]...), keep(2), put(all[:1]...), drop(2), put(all...), keep(2))
	want := []int{99, 100, 101, 97, 98, 97, 97, 98, 99, 100, 101, 102, 101, 102}
	if got, ok := impl.Apply(o, all); !ok || !slices.Equal(got, want) {
		t.Errorf("Apply(%v, %v): %v %v", o, all, got, ok)
	}
	inverse := op(drop(3), keep(2), put(99, 100), drop(7), keep(2))
	if got, ok := impl.Invert(o, all); !ok || !alike(got, inverse) {
		t.Errorf("Invert(%v, %v): %v %v", o, all, got, ok)
	}
	if got, ok := impl.Between(all[:4], all[1:5]); !ok || !alike(got, op(put(98, 99, 100, 101), drop(4))) {
		t.Errorf("Between of two parts of one list: %v %v", got, ok)
	}
	if got, ok := impl.Between(all[:4], all); !ok || !alike(got, op(keep(4), put(101, 102))) {
		t.Errorf("Between of a part and its list: %v %v", got, ok)
	}
	if !slices.Equal(all, letters(6)) {
		t.Errorf("the characters became %v", all)
	}
}
