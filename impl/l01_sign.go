package impl

import (
	"slices"
	"strconv"
	"strings"
)

const MaxSign = 1114111
const MaxNum = 1000000000

// The surrogates are no characters: UTF-16 uses them as halves of pairs.
const (
	firstSurrogate = 55296
	lastSurrogate  = 57343
)

func SignOk(n int) bool {
	if n >= firstSurrogate && n <= lastSurrogate {
		return false
	}
	return n >= 0 && n <= MaxSign
}

func SignsOk(l []int) bool {
	for _, n := range l {
		if !SignOk(n) {
			return false
		}
	}
	return true
}

func Bytes(l []int) string {
	if !SignsOk(l) {
		return ""
	}
	var out []byte
	for _, n := range l {
		out = addSign(out, n)
	}
	return string(out)
}

func addSign(b []byte, n int) []byte {
	switch {
	case n < 128:
		return addBytes(b, n)
	case n < 2048:
		return addBytes(b, 192+n/64, further(n))
	case n < 65536:
		return addBytes(b, 224+n/4096, further(n/64), further(n))
	}
	return addBytes(b, 240+n/262144, further(n/4096), further(n/64), further(n))
}

func addBytes(b []byte, values ...int) []byte {
	for _, v := range values {
		b = append(b, byte(v))
	}
	return b
}

func further(bits int) int {
	return 128 + bits%64
}

func Signs(s string) ([]int, bool) {
	var l []int
	for _, r := range s {
		l = append(l, int(r))
	}
	// A byte that belongs to no encoding is read as the character 65533, whose
	// own encoding has three bytes, so that the encoding of l differs from s.
	if Bytes(l) != s {
		return nil, false
	}
	return l, true
}

func SignsSame(a []int, b []int) bool {
	return slices.Equal(a, b)
}

func NumText(n int) string {
	if n < 0 || n > MaxNum {
		return ""
	}
	return strconv.Itoa(n)
}

func TextNum(s string) (int, bool) {
	n, err := strconv.Atoi(s)
	// Atoi also accepts signs and leading zeros, which NumText never writes.
	if err != nil || NumText(n) != s {
		return 0, false
	}
	return n, true
}

func Cut(s string) []string {
	return splitAt(s, ' ')
}

func Lines(s string) []string {
	l := splitAt(s, '\n')
	last := len(l) - 1
	if l[last] == "" {
		return l[:last]
	}
	return l
}

// splitAt needs a mark below 128: no such byte is part of a longer encoding,
// so that it is found in strings that are no UTF-8 as well.
func splitAt(s string, mark rune) []string {
	var l []string
	start := 0
	for i, r := range s {
		if r == mark {
			l = append(l, strings.Clone(s[start:i]))
			start = i + 1
		}
	}
	return append(l, strings.Clone(s[start:]))
}

func Fnv(s string) int {
	hash := uint32(2166136261)
	for i := range len(s) {
		hash = (hash ^ uint32(s[i])) * 16777619
	}
	return int(hash)
}
