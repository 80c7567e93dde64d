package lang_test

import (
	"math"
	"math/big"
	"math/rand"
	"slices"
	"strings"
	"testing"

	"masthead/api"
	"masthead/lang"
)

// P8.7: which form a number has.
func TestForm(t *testing.T) {
	slavic := rule(within(1, 1), group(lang.All, modulo(10, 2, 4), group(lang.None, modulo(100, 12, 14))))
	for _, x := range []struct {
		r    lang.Rule
		n    int
		want int
	}{
		{slavic, 1, 0}, {slavic, -1, 0}, {slavic, 22, 1}, {slavic, -22, 1}, {slavic, 12, 2}, {slavic, 5, 2}, {slavic, 0, 2}, {slavic, 101, 2}, {slavic, 104, 1}, {slavic, 112, 2},
		{rule(), 0, 0}, {rule(), 7, 0}, {rule(within(0, 0)), 0, 0}, {rule(within(0, 0)), 1, 1}, {rule(within(3, 5)), 2, 1}, {rule(within(3, 5)), 3, 0}, {rule(within(3, 5)), 5, 0}, {rule(within(3, 5)), -5, 0}, {rule(within(3, 5)), 6, 1},
		{rule(within(1, 9), within(2, 2)), 2, 0}, {rule(within(2, 2), within(1, 9)), 2, 0}, {rule(within(2, 2), within(1, 9)), 3, 1},
		{rule(modulo(2, 0, 0)), 4, 0}, {rule(modulo(2, 0, 0)), -3, 1}, {rule(modulo(7, 8, 9)), 8, 1}, {rule(modulo(1_000_000, 999_999, 1_000_000_000)), 5_999_999, 0},
		{rule(within(0, 1_000_000_000)), 1_000_000_000, 0}, {rule(within(0, 1_000_000_000)), 1_000_000_001, 1}, {rule(within(0, 1_000_000_000)), math.MaxInt, 1},
		{rule(modulo(10, 8, 8)), math.MinInt, 0}, {rule(modulo(1000, 808, 808)), math.MinInt, 0}, {rule(modulo(10, 7, 7)), math.MaxInt, 0}, {rule(within(0, 1_000_000_000)), math.MinInt, 1},
		{rule(group(lang.All, within(1, 5), within(4, 9))), 4, 0}, {rule(group(lang.All, within(1, 5), within(4, 9))), 3, 1}, {rule(group(lang.Some, within(1, 1), within(3, 3))), 3, 0}, {rule(group(lang.Some, within(1, 1), within(3, 3))), 2, 1},
		{rule(group(lang.None, within(1, 1), within(3, 3))), 2, 0}, {rule(group(lang.None, within(1, 1), within(3, 3))), 3, 1}, {rule(group(lang.None, group(lang.None, within(1, 1)))), 1, 0},
	} {
		got, e := lang.Form(x.r, x.n)
		expect(t, show(x.r)+show(x.n), got, e, x.want, api.OK)
	}
}

// holds is whether a test holds, for numbers of any size.
func holds(x lang.Test, n *big.Int) bool {
	many := 0
	for _, kid := range x.Kids {
		if holds(kid, n) {
			many++
		}
	}
	switch x.Op {
	case lang.All:
		return many == len(x.Kids)
	case lang.Some:
		return many > 0
	case lang.None:
		return many == 0
	}
	left := new(big.Int).Abs(n)
	if x.Modulus != 0 {
		left.Mod(left, big.NewInt(int64(x.Modulus)))
	}
	return left.Cmp(big.NewInt(int64(x.Low))) >= 0 && left.Cmp(big.NewInt(int64(x.High))) <= 0
}

// P8.7: the forms of random rules.
func TestFormsOfRandomRules(t *testing.T) {
	r := rand.New(rand.NewSource(4))
	var seen [lang.MaxForms + 1]int
	for range 5000 {
		rule := anyRule(r)
		n := []int{r.Intn(30), -r.Intn(30), r.Int(), -r.Int(), math.MinInt, math.MaxInt}[r.Intn(6)]
		want := len(rule.Forms)
		for i, x := range slices.Backward(rule.Forms) {
			if holds(x, big.NewInt(int64(n))) {
				want = i
			}
		}
		seen[want]++
		got, e := lang.Form(rule, n)
		expect(t, show(rule)+show(n), got, e, want, api.OK)
	}
	if slices.Min(seen[:]) < 20 {
		t.Errorf("forms: %v", seen)
	}
}

// P8.7: rules that are none, and which error comes first.
func TestRuleErrors(t *testing.T) {
	low := within(2, 1)
	bad := lang.Test{Op: 5}
	for _, x := range []struct {
		name string
		r    lang.Rule
		e    api.Errno
	}{
		{"six forms", rule(slices.Repeat(tests(within(1, 1)), 6)...), api.OK},
		{"seven forms", rule(slices.Repeat(tests(within(1, 1)), 7)...), api.ErrLarge},
		{"20 tests", rule(wideTest(20), wideTest(20)), api.OK},
		{"21 tests", rule(within(1, 1), wideTest(21)), api.ErrLarge},
		{"21 tests in several", rule(group(lang.All, wideTest(10), wideTest(10))), api.ErrLarge},
		{"20 tests in several", rule(group(lang.All, wideTest(10), wideTest(9))), api.OK},
		{"12 levels", rule(deepTest(12)), api.OK},
		{"13 levels", rule(within(1, 1), deepTest(13)), api.ErrDeep},
		{"21 levels", rule(deepTest(21)), api.ErrLarge},
		{"a million levels", rule(deepTest(1_000_000)), api.ErrLarge},
		{"13 levels, then 21 tests", rule(deepTest(13), wideTest(21)), api.ErrLarge},
		{"no Op, then 13 levels", rule(bad, deepTest(13)), api.ErrDeep},
		{"Op 0", rule(lang.Test{}), api.ErrForm},
		{"Op 5", rule(bad), api.ErrForm},
		{"Op -1", rule(lang.Test{Op: -1, Kids: tests(within(1, 1), within(1, 1))}), api.ErrForm},
		{"Op 5 with Kids", rule(group(5, within(1, 1), within(1, 1))), api.ErrForm},
		{"Within with Kids", rule(group(lang.Within, within(1, 1))), api.ErrForm},
		{"All without Kids", rule(group(lang.All)), api.ErrForm},
		{"All with one Kid", rule(group(lang.All, within(1, 1))), api.ErrForm},
		{"Some without Kids", rule(group(lang.Some)), api.ErrForm},
		{"Some with one Kid", rule(group(lang.Some, within(1, 1))), api.ErrForm},
		{"None without Kids", rule(group(lang.None)), api.ErrForm},
		{"None with one Kid", rule(group(lang.None, within(1, 1))), api.OK},
		{"All with a Modulus", rule(lang.Test{Op: lang.All, Modulus: 2, Kids: tests(within(1, 1), within(1, 1))}), api.ErrForm},
		{"Some with Low", rule(lang.Test{Op: lang.Some, Low: 1, High: 2, Kids: tests(within(1, 1), within(1, 1))}), api.ErrForm},
		{"None with High", rule(lang.Test{Op: lang.None, High: 1, Kids: tests(within(1, 1))}), api.ErrForm},
		{"None with Low", rule(lang.Test{Op: lang.None, Low: -1, Kids: tests(within(1, 1))}), api.ErrForm},
		{"All in All", rule(group(lang.All, within(1, 1), group(lang.All, within(1, 1), within(1, 1)))), api.ErrForm},
		{"Some in Some", rule(group(lang.Some, group(lang.Some, within(1, 1), within(1, 1)), within(1, 1))), api.ErrForm},
		{"All in Some in All", rule(group(lang.All, group(lang.Some, group(lang.All, within(1, 1), within(1, 1)), within(1, 1)), within(1, 1))), api.OK},
		{"None in None", rule(group(lang.None, group(lang.None, within(1, 1)), group(lang.None, within(1, 1)))), api.OK},
		{"a range, then a form", rule(low, within(1, 1), bad), api.ErrForm},
		{"a range, then a form in a None", rule(low, group(lang.None, within(1, 1), bad)), api.ErrForm},
		{"Modulus 1", rule(modulo(1, 0, 0)), api.ErrRange},
		{"Modulus 2", rule(modulo(2, 0, 0)), api.OK},
		{"Modulus -2", rule(modulo(-2, 0, 0)), api.ErrRange},
		{"Modulus 1000000", rule(modulo(1_000_000, 0, 0)), api.OK},
		{"Modulus 1000001", rule(modulo(1_000_001, 0, 0)), api.ErrRange},
		{"least Modulus", rule(modulo(math.MinInt, 0, 0)), api.ErrRange},
		{"Low -1", rule(within(-1, 0)), api.ErrRange},
		{"Low above High", rule(low), api.ErrRange},
		{"High -1", rule(within(-2, -1)), api.ErrRange},
		{"High 1000000000", rule(within(1_000_000_000, 1_000_000_000)), api.OK},
		{"High 1000000001", rule(within(0, 1_000_000_001)), api.ErrRange},
		{"greatest numbers", rule(modulo(math.MaxInt, math.MaxInt, math.MaxInt)), api.ErrRange},
		{"in a Kid", rule(within(1, 1), group(lang.None, group(lang.Some, within(1, 1), low))), api.ErrRange},
	} {
		n, e := lang.Form(x.r, 3)
		if e != x.e || e != api.OK && n != 0 {
			t.Errorf("%s: form %d, error %d", x.name, n, e)
		}
		s, e := lang.RuleString(x.r)
		if e != x.e || e != api.OK && s != "" {
			t.Errorf("%s: string %s, error %d", x.name, short(s), e)
		}
		if e := lang.CheckLanguage(lang.Language{Name: "x", Rule: x.r, Group: wide(9)}); e != x.e && x.e != api.OK {
			t.Errorf("%s: error %d in a language", x.name, e)
		}
	}
}

// P8.8: rules as strings, and what those are.
func TestRuleStrings(t *testing.T) {
	one, two, three := within(1, 1), within(2, 2), within(3, 3)
	for s, want := range map[string]lang.Rule{
		"":                                 rule(),
		"n=1":                              rule(one),
		"n=0":                              rule(within(0, 0)),
		"n=0..1":                           rule(within(0, 1)),
		"n=10..1000000000":                 rule(within(10, 1_000_000_000)),
		"n%10=1":                           rule(modulo(10, 1, 1)),
		"n%1000000=0..5":                   rule(modulo(1_000_000, 0, 5)),
		"n=1; n=2; n=3":                    rule(one, two, three),
		"n=1 & n=2":                        rule(group(lang.All, one, two)),
		"n=1 & n=2 & n=3":                  rule(group(lang.All, one, two, three)),
		"n=1 | n=2":                        rule(group(lang.Some, one, two)),
		"n=1 & n=2 | n=3":                  rule(group(lang.Some, group(lang.All, one, two), three)),
		"n=1 | n=2 & n=3":                  rule(group(lang.Some, one, group(lang.All, two, three))),
		"(n=1 | n=2) & n=3":                rule(group(lang.All, group(lang.Some, one, two), three)),
		"n=1 & (n=2 | n=3)":                rule(group(lang.All, one, group(lang.Some, two, three))),
		"(n=1 | n=2) & (n=2 | n=3)":        rule(group(lang.All, group(lang.Some, one, two), group(lang.Some, two, three))),
		"(n=1 | n=2) & n=3 | n=1":          rule(group(lang.Some, group(lang.All, group(lang.Some, one, two), three), one)),
		"(n=1 & n=2 | n=3) & n=1":          rule(group(lang.All, group(lang.Some, group(lang.All, one, two), three), one)),
		"!(n=1)":                           rule(group(lang.None, one)),
		"!(n=1 | n=2)":                     rule(group(lang.None, one, two)),
		"!(n=1 & n=2)":                     rule(group(lang.None, group(lang.All, one, two))),
		"!((n=1 | n=2))":                   rule(group(lang.None, group(lang.Some, one, two))),
		"!((n=1 | n=2) | n=3)":             rule(group(lang.None, group(lang.Some, one, two), three)),
		"!(n=3 | (n=1 | n=2))":             rule(group(lang.None, three, group(lang.Some, one, two))),
		"!((n=1 | n=2) & n=3)":             rule(group(lang.None, group(lang.All, group(lang.Some, one, two), three))),
		"!(!(n=1))":                        rule(group(lang.None, group(lang.None, one))),
		"!(n=1) & n=2":                     rule(group(lang.All, group(lang.None, one), two)),
		"n=2 | !(n=1)":                     rule(group(lang.Some, two, group(lang.None, one))),
		"n=1; n%10=2..4 & !(n%100=12..14)": rule(one, group(lang.All, modulo(10, 2, 4), group(lang.None, modulo(100, 12, 14)))),
	} {
		got, e := lang.RuleString(want)
		expect(t, s, got, e, s, api.OK)
		r, at, e := lang.ReadRule(s)
		expect(t, s, r, e, want, api.OK)
		if at != 0 {
			t.Errorf("%s: position %d", s, at)
		}
	}
}

// P8.8: strings that are no rules, and where.
func TestReadRuleErrors(t *testing.T) {
	for _, x := range []struct {
		s  string
		at int
		e  api.Errno
	}{
		{" ", 0, api.ErrSyntax}, {"x", 0, api.ErrSyntax}, {"N=1", 0, api.ErrSyntax}, {" n=1", 0, api.ErrSyntax}, {"n", 1, api.ErrSyntax}, {"n ", 1, api.ErrSyntax}, {"n=", 2, api.ErrSyntax}, {"n= 1", 2, api.ErrSyntax}, {"n =1", 1, api.ErrSyntax}, {"n1", 1, api.ErrSyntax},
		{"n=-1", 2, api.ErrSyntax}, {"n=+1", 2, api.ErrSyntax}, {"n=00", 3, api.ErrSyntax}, {"n=01", 3, api.ErrSyntax}, {"n=1a", 3, api.ErrSyntax}, {"n=1.", 4, api.ErrSyntax}, {"n=1.2", 4, api.ErrSyntax}, {"n=1..", 5, api.ErrSyntax}, {"n=1...2", 5, api.ErrSyntax}, {"n=1..02", 6, api.ErrSyntax}, {"n=0..01", 5, api.ErrSyntax}, {"n=0..0x", 5, api.ErrSyntax}, {"n=1..2..3", 6, api.ErrSyntax}, {"n=1..-2", 5, api.ErrSyntax},
		{"n=1..1", 5, api.ErrSyntax}, {"n=0..0", 5, api.ErrSyntax}, {"n=12..12x", 6, api.ErrSyntax}, {"n=1..1; x", 5, api.ErrSyntax}, {"n=1..12", 0, api.OK}, {"n%2=12..12", 8, api.ErrSyntax}, {"n=2000000000..2000000000", 14, api.ErrSyntax}, {"n=99999999999999999999..99999999999999999999", 24, api.ErrSyntax}, {"n=99999999999999999998..99999999999999999999", 0, api.ErrRange}, {"n=99999999999999999998..9", 0, api.ErrRange},
		{"n%=1", 2, api.ErrSyntax}, {"n%", 2, api.ErrSyntax}, {"n%2", 3, api.ErrSyntax}, {"n%02=1", 3, api.ErrSyntax}, {"n%-2=1", 2, api.ErrSyntax}, {"n%2%2=1", 3, api.ErrSyntax}, {"n%2 =1", 3, api.ErrSyntax}, {"n%%2=1", 2, api.ErrSyntax},
		{"n%0=0", 0, api.ErrRange}, {"n%1=0", 0, api.ErrRange}, {"n%1000000=1", 0, api.OK}, {"n%1000001=1", 0, api.ErrRange}, {"n%18446744073709551618=1", 0, api.ErrRange}, {"n=2..1", 0, api.ErrRange}, {"n=1000000000", 0, api.OK}, {"n=1000000001", 0, api.ErrRange}, {"n=1..1000000001", 0, api.ErrRange}, {"n=18446744073709551617", 0, api.ErrRange}, {"n=0..18446744073709551617", 0, api.ErrRange},
		{"n=1 ", 4, api.ErrSyntax}, {"n=1  ", 4, api.ErrSyntax}, {"n=1 &", 5, api.ErrSyntax}, {"n=1 & ", 6, api.ErrSyntax}, {"n=1 &  n=2", 6, api.ErrSyntax}, {"n=1& n=2", 3, api.ErrSyntax}, {"n=1 &n=2", 5, api.ErrSyntax}, {"n=1 && n=2", 5, api.ErrSyntax}, {"n=1 |", 5, api.ErrSyntax}, {"n=1 | ", 6, api.ErrSyntax}, {"n=1| n=2", 3, api.ErrSyntax}, {"n=1 |n=2", 5, api.ErrSyntax}, {"n=1 n=2", 4, api.ErrSyntax}, {"n=1 ; n=2", 4, api.ErrSyntax}, {"n=1\tn=2", 3, api.ErrSyntax}, {"n=1 | n=2 x", 10, api.ErrSyntax},
		{"n=1;", 4, api.ErrSyntax}, {"n=1; ", 5, api.ErrSyntax}, {"n=1;n=2", 4, api.ErrSyntax}, {"n=1;  n=2", 5, api.ErrSyntax}, {";", 0, api.ErrSyntax}, {"; n=1", 0, api.ErrSyntax}, {"n=1; ;", 5, api.ErrSyntax}, {"n=1; & n=2", 5, api.ErrSyntax}, {"& n=1", 0, api.ErrSyntax}, {"n=1)", 3, api.ErrSyntax}, {"n=1 & n=2)", 9, api.ErrSyntax},
		{"(", 1, api.ErrSyntax}, {"()", 1, api.ErrSyntax}, {"( n=1", 1, api.ErrSyntax}, {"(n=1)", 4, api.ErrSyntax}, {"(n=1) & n=2", 4, api.ErrSyntax}, {"(n=1", 4, api.ErrSyntax}, {"(n=1 ", 5, api.ErrSyntax}, {"(n=1;", 4, api.ErrSyntax}, {"(n=1 & n=2)", 10, api.ErrSyntax}, {"(n=1 & n=2) & n=3", 10, api.ErrSyntax}, {"(n=1 | n=2", 10, api.ErrSyntax}, {"(n=1 | n=2;", 10, api.ErrSyntax}, {"(n=1 | n=2 )", 11, api.ErrSyntax}, {"(n=1 | n=2)", 11, api.ErrSyntax}, {"(n=1 | n=2) ", 12, api.ErrSyntax}, {"(n=1 | n=2); n=1", 11, api.ErrSyntax}, {"(n=1 | n=2) | n=3", 12, api.ErrSyntax}, {"(n=1 | n=2))", 11, api.ErrSyntax},
		{"(n=1 | n=2) & ", 14, api.ErrSyntax}, {"(n=1 | n=2) &n=3", 13, api.ErrSyntax}, {"n=3 | (n=1 | n=2)", 17, api.ErrSyntax}, {"n=3 | (n=1 | n=2) | n=1", 18, api.ErrSyntax}, {"((n=1 | n=2) | n=3) & n=1", 13, api.ErrSyntax}, {"((n=1 | n=2)) & n=1", 12, api.ErrSyntax}, {"((n=1 | n=2) & n=3) & n=1", 18, api.ErrSyntax}, {"n=1 & (n=2)", 10, api.ErrSyntax}, {"n=1 & (n=2 | n=3))", 17, api.ErrSyntax}, {"n=1(n=2 | n=3)", 3, api.ErrSyntax},
		{"!", 1, api.ErrSyntax}, {"!n=1", 1, api.ErrSyntax}, {"! (n=1)", 1, api.ErrSyntax}, {"!(", 2, api.ErrSyntax}, {"!()", 2, api.ErrSyntax}, {"!(n=1", 5, api.ErrSyntax}, {"!(n=1 ", 6, api.ErrSyntax}, {"!(n=1 )", 6, api.ErrSyntax}, {"!(n=1;", 5, api.ErrSyntax}, {"!(n=1)!(n=2)", 6, api.ErrSyntax}, {"!!(n=1)", 1, api.ErrSyntax}, {"!((n=1))", 6, api.ErrSyntax}, {"!((n=1 | n=2)", 13, api.ErrSyntax}, {"!((n=1 | n=2) n", 14, api.ErrSyntax}, {"!(n=1) ", 7, api.ErrSyntax},
		{strings.Repeat("n=1; ", 5) + "n=1", 0, api.OK}, {strings.Repeat("n=1; ", 6) + "n=1", 0, api.ErrLarge}, {strings.Repeat("n=1 & ", 18) + "n=1", 0, api.OK}, {strings.Repeat("n=1 & ", 19) + "n=1", 0, api.ErrLarge}, {strings.Repeat("!(", 11) + "n=1" + strings.Repeat(")", 11), 0, api.OK}, {strings.Repeat("!(", 12) + "n=1" + strings.Repeat(")", 12), 0, api.ErrDeep}, {strings.Repeat("!(", 12) + "n%0=1" + strings.Repeat(")", 12), 0, api.ErrDeep}, {"n%0=1; n=1..1", 12, api.ErrSyntax},
		{strings.Repeat("!(", 1000), 2000, api.ErrSyntax}, {strings.Repeat("(", 2000), 2000, api.ErrSyntax}, {strings.Repeat("!(", 665) + "n=1" + strings.Repeat(")", 665), 0, api.ErrLarge}, {wide(2000), 0, api.ErrSyntax}, {strings.Repeat("n=1 | ", 333) + "x", 1998, api.ErrSyntax}, {"n=" + strings.Repeat("1", 1998), 0, api.ErrRange}, {"n=" + strings.Repeat("1", 1999), 0, api.ErrLarge}, {strings.Repeat("(", 2001), 0, api.ErrLarge},
	} {
		r, at, e := lang.ReadRule(x.s)
		if e == api.OK {
			r = lang.Rule{}
		}
		expect(t, x.s, show(r)+show(at), e, show(lang.Rule{})+show(x.at), x.e)
	}
}

// P8.8: rules of at most, and of more than, MaxMessage bytes.
func TestLongRules(t *testing.T) {
	wide := group(lang.Some, slices.Repeat(tests(within(999_999_999, 1_000_000_000)), 19)...) // 19 times 23 bytes, and 3 between
	for bytes := 1990; bytes <= 2010; bytes++ {
		last := group(lang.Some)
		left := bytes - 4*(19*23+18*3+2) - len("n= | n= | n=")
		for kids := range 3 {
			digits := min(10, left-2+kids)
			last.Kids, left = append(last.Kids, within(pow(digits), pow(digits))), left-digits
		}
		r := rule(wide, wide, wide, wide, last)
		s, e := lang.RuleString(r)
		if bytes > lang.MaxMessage {
			expect(t, show(bytes), s, e, "", api.ErrLarge)
			continue
		}
		if e != api.OK || len(s) != bytes {
			t.Fatalf("%d bytes, not %d: error %d", len(s), bytes, e)
		}
		again, _, e := lang.ReadRule(s)
		expect(t, s, again, e, r, api.OK)
	}
}

// pow is the least number of so many digits.
func pow(digits int) int {
	n := 1
	for range digits - 1 {
		n *= 10
	}
	return n
}

const ruleBytes = "n=0123456789%.&| ;!()x"

// P8.8: what is written can be read, and nothing else; what cannot be read has an error that the bytes after it do not change.
func TestRulesAgain(t *testing.T) {
	r := rand.New(rand.NewSource(5))
	for range 20_000 {
		rule := anyRule(r)
		s, e := lang.RuleString(rule)
		if e != api.OK {
			t.Fatalf("%+v: error %d", rule, e)
		}
		got, _, e := lang.ReadRule(s)
		expect(t, s, got, e, rule, api.OK)
		if s == "" {
			continue
		}
		i := r.Intn(len(s) + 1)
		flawed := s[:i] + string(ruleBytes[r.Intn(len(ruleBytes))]) + s[min(len(s), i+r.Intn(2)):]
		got, at, e := lang.ReadRule(flawed)
		switch again, _ := lang.RuleString(got); {
		case e == api.OK && again != flawed:
			t.Errorf("%s is read as %s", flawed, again)
		case e == api.ErrSyntax && at < i && !strings.Contains(flawed[:i], "."):
			t.Errorf("%s: position %d, but the string is right up to %d", flawed, at, i)
		case e == api.ErrSyntax && at < len(flawed):
			if _, where, e := lang.ReadRule(flawed[:at+1] + "n=1"); e != api.ErrSyntax || where != at && flawed[at-1] != '.' {
				t.Errorf("%s: position %d, but %d, error %d, with other bytes behind it", flawed, at, where, e)
			}
		}
	}
}
