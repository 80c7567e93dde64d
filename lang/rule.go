package lang

import (
	"slices"

	"masthead/api"
)

const (
	minModulus = 2
	maxModulus = 1_000_000
	maxHigh    = 1_000_000_000
)

// Form is the form that goes with a number.
func Form(r Rule, n int) (int, api.Errno) {
	if e := checkRule(r); e != api.OK {
		return 0, e
	}
	return formOf(r, n), api.OK
}

func formOf(r Rule, n int) int {
	i := slices.IndexFunc(r.Forms, func(t Test) bool { return holds(t, withoutSign(n)) })
	if i < 0 {
		return len(r.Forms)
	}
	return i
}

// withoutSign is |n|; that of the least int is no int.
func withoutSign(n int) uint64 {
	if n < 0 {
		return -uint64(n)
	}
	return uint64(n)
}

func holds(t Test, n uint64) bool {
	held := func(kid Test) bool { return holds(kid, n) }
	switch t.Op {
	case All:
		return !slices.ContainsFunc(t.Kids, func(kid Test) bool { return !held(kid) })
	case Some:
		return slices.ContainsFunc(t.Kids, held)
	case None:
		return !slices.ContainsFunc(t.Kids, held)
	}
	if t.Modulus != 0 {
		n %= uint64(t.Modulus)
	}
	return n >= uint64(t.Low) && n <= uint64(t.High)
}

// checkRule says whether a rule is one.
func checkRule(r Rule) api.Errno {
	if len(r.Forms) > MaxForms || slices.ContainsFunc(r.Forms, func(t Test) bool { return countTests(t, MaxTests) > MaxTests }) {
		return api.ErrLarge
	}
	switch {
	case slices.ContainsFunc(r.Forms, func(t Test) bool { return levels(t) > api.MaxDeep }):
		return api.ErrDeep
	case anyTest(r.Forms, func(t Test) bool { return !fitsOp(t) }):
		return api.ErrForm
	case anyTest(r.Forms, func(t Test) bool { return !isInRange(t) }):
		return api.ErrRange
	}
	return api.OK
}

// countTests is how many tests a test has with all its Kids, or some number above most, if there are more.
func countTests(t Test, most int) int {
	n := 1
	for i := 0; i < len(t.Kids) && n <= most; i++ {
		n += countTests(t.Kids[i], most-n)
	}
	return n
}

func levels(t Test) int {
	deepest := 0
	for _, kid := range t.Kids {
		deepest = max(deepest, levels(kid))
	}
	return deepest + 1
}

// anyTest says whether something is so with one of these tests, or of their Kids.
func anyTest(l []Test, is func(t Test) bool) bool {
	return slices.ContainsFunc(l, func(t Test) bool { return is(t) || anyTest(t.Kids, is) })
}

// fitsOp says whether a test has the Kids and the fields of its Op.
func fitsOp(t Test) bool {
	if t.Op == Within {
		return len(t.Kids) == 0
	}
	if t.Modulus != 0 || t.Low != 0 || t.High != 0 {
		return false
	}
	switch t.Op {
	case All, Some:
		return len(t.Kids) >= 2 && !slices.ContainsFunc(t.Kids, func(kid Test) bool { return kid.Op == t.Op })
	case None:
		return len(t.Kids) >= 1
	}
	return false
}

// isInRange says whether the numbers of a test are within their bounds; in a test with Kids they are all 0.
func isInRange(t Test) bool {
	modulusFits := t.Modulus == 0 || t.Modulus >= minModulus && t.Modulus <= maxModulus
	return modulusFits && t.Low >= 0 && t.Low <= t.High && t.High <= maxHigh
}
