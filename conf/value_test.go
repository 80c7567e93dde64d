package conf_test

import (
	"math"
	"math/rand"
	"strings"
	"testing"

	"masthead/api"
	"masthead/conf"
)

type checkCase struct {
	name string
	v    api.Value
	want api.Errno
}

func expectCheck(t *testing.T, cases []checkCase) {
	t.Helper()
	for _, c := range cases {
		if e := conf.Check(c.v); e != c.want {
			t.Errorf("%s: Check is %d, want %d", c.name, e, c.want)
		}
	}
}

// P2.1: values that are ones of settings.
func TestCheckValid(t *testing.T) {
	expectCheck(t, []checkCase{
		{"nil", null(), api.OK},
		{"yes", truth(true), api.OK},
		{"no", truth(false), api.OK},
		{"the least number", num(math.MinInt), api.OK},
		{"the greatest number", num(math.MaxInt), api.OK},
		{"an empty string", str(""), api.OK},
		{"a string with all bytes", str("\t\n \x7f\x80\xff\"\\"), api.OK},
		{"the first day", day(0), api.OK},
		{"the last day", day(api.MaxDay), api.OK},
		{"an empty list", list(), api.OK},
		{"an empty table", table(), api.OK},
		{"a list of all kinds", list(null(), truth(true), num(1), str("a"), day(1), list(), table()), api.OK},
		{"a table", table("a", num(1), "b", table("a", list(num(1), null()))), api.OK},
	})
}

// P2.1: how many values, and how many levels.
func TestCheckSize(t *testing.T) {
	full := list(many(conf.MaxValues-1, null())...)
	expectCheck(t, []checkCase{
		{"as many values as can be", full, api.OK},
		{"one more", list(many(conf.MaxValues, null())...), api.ErrLarge},
		{"one more around", list(full), api.ErrLarge},
		{"one more before", list(null(), list(many(conf.MaxValues-2, null())...)), api.ErrLarge},
		{"as many in two lists", list(list(many(498, num(1))...), list(many(499, num(1))...)), api.OK},
		{"one more in two lists", list(list(many(499, num(1))...), list(many(499, num(1))...)), api.ErrLarge},
		{"very many", list(many(1_000_000, null())...), api.ErrLarge},
		{"very deep", nested(200_000, null()), api.ErrLarge},
		{"8 levels", nested(7, num(1)), api.OK},
		{"9 levels", nested(8, num(1)), api.ErrDeep},
		{"8 levels of lists", nested(7, list()), api.OK},
		{"9 levels of lists", nested(8, list()), api.ErrDeep},
		{"9 levels in a table", table("a", num(1), "b", nested(7, num(1))), api.ErrDeep},
		{"9 levels in the first of two", list(nested(7, num(1)), num(1)), api.ErrDeep},
		{"1000 levels", nested(999, num(1)), api.ErrDeep},
		{"1001 levels", nested(1000, num(1)), api.ErrLarge},
		{"large before deep", list(nested(8, num(1)), list(many(conf.MaxValues, null())...)), api.ErrLarge},
		{"large before a kind", list(many(conf.MaxValues, other(99))...), api.ErrLarge},
		{"deep before a kind", list(other(99), nested(8, num(1))), api.ErrDeep},
		{"the Items of a String count", api.Value{Kind: api.String, Items: many(conf.MaxValues, null())}, api.ErrLarge},
		{"the Items of a String are levels", nested(7, api.Value{Kind: api.String, Items: many(1, null())}), api.ErrDeep},
	})
}

// P2.1: kinds, and fields that a kind does not use.
func TestCheckForms(t *testing.T) {
	for kind := -3; kind <= 10; kind++ {
		want := api.OK
		if kind < api.Nil || kind > api.Table {
			want = api.ErrKind
		}
		expectCheck(t, []checkCase{{"kind", other(kind), want}, {"kind in a list", list(num(1), other(kind)), want}})
	}
	// Which kinds use which field.
	fields := []struct {
		name string
		set  func(v *api.Value)
		used []int
	}{
		{"Bool", func(v *api.Value) { v.Bool = true }, []int{api.Bool}},
		{"Int", func(v *api.Value) { v.Int = 1 }, []int{api.Int, api.Day}},
		{"Int below 0", func(v *api.Value) { v.Int = -1 }, []int{api.Int}},
		{"Text", func(v *api.Value) { v.Text = "a" }, []int{api.String}},
		{"Items", func(v *api.Value) { v.Items = many(1, null()) }, []int{api.List}},
		{"Keys", func(v *api.Value) { v.Keys = []string{"a"} }, nil},
		{"Keys and Items", func(v *api.Value) { v.Keys, v.Items = []string{"a"}, many(1, null()) }, []int{api.Table}},
		{"more Keys", func(v *api.Value) { v.Keys, v.Items = []string{"a", "b"}, many(1, null()) }, nil},
		{"more Items", func(v *api.Value) { v.Keys, v.Items = []string{"a"}, many(2, null()) }, nil},
		{"empty Keys and Items", func(v *api.Value) { v.Keys, v.Items = []string{}, []api.Value{} }, []int{0, 1, 2, 3, 4, 5, 6}},
	}
	for _, f := range fields {
		for kind := api.Nil; kind <= api.Table; kind++ {
			v, want := other(kind), api.ErrForm
			f.set(&v)
			for _, used := range f.used {
				if used == kind {
					want = api.OK
				}
			}
			if f.name == "Int below 0" && kind == api.Day {
				want = api.ErrRange
			}
			expectCheck(t, []checkCase{{f.name, v, want}, {f.name + " in a list", list(v), want}})
		}
	}
}

// P2.1: days, strings and keys.
func TestCheckContents(t *testing.T) {
	cases := []checkCase{
		{"a day below 0", day(-1), api.ErrRange},
		{"a day too great", day(api.MaxDay + 1), api.ErrRange},
		{"the least day", day(math.MinInt), api.ErrRange},
		{"the greatest day", day(math.MaxInt), api.ErrRange},
		{"a long string", strLen(conf.MaxString), api.OK},
		{"a too long string", strLen(conf.MaxString + 1), api.ErrLarge},
		{"a too long string with a byte", str(strings.Repeat("\x01", conf.MaxString+1)), api.ErrLarge},
		{"a long key", table(strings.Repeat("k", api.MaxPart), num(1)), api.OK},
		{"a too long key", table(strings.Repeat("k", api.MaxPart+1), num(1)), api.ErrName},
		{"an empty key", table("", num(1)), api.ErrName},
		{"keys in order", table("a", num(1), "a-", num(1), "a0", num(1), "a_", num(1), "aa", num(1), "b", num(1)), api.OK},
		{"keys not in order", table("a", num(1), "c", num(1), "b", num(1)), api.ErrOrder},
		{"a key twice", table("a", num(1), "a", num(1)), api.ErrOrder},
		{"not in order before a name", table("b", num(1), "a", num(1), "A", num(1)), api.ErrOrder},
		{"a name before not in order", table("b", num(1), "A", num(1), "a", num(1)), api.ErrName},
		{"a name that is not in order", table("b", num(1), "a!", num(1)), api.ErrName},
	}
	for c := range 256 {
		name, want, wantFirst, wantLater := string([]byte{byte(c)}), api.OK, api.ErrName, api.ErrName
		if c < 32 && c != 9 && c != 10 {
			want = api.ErrByte
		}
		if strings.IndexByte("abcdefghijklmnopqrstuvwxyz", byte(c)) >= 0 {
			wantFirst = api.OK
		}
		if strings.IndexByte("abcdefghijklmnopqrstuvwxyz0123456789-_", byte(c)) >= 0 {
			wantLater = api.OK
		}
		cases = append(cases, checkCase{"byte " + name, str("a" + name), want},
			checkCase{"first in a key: " + name, table(name, num(1)), wantFirst}, checkCase{"later in a key: " + name, table("a"+name+"b", num(1)), wantLater})
	}
	expectCheck(t, cases)
}

// P2.1: one value after the other, each one before its Items.
func TestCheckOrder(t *testing.T) {
	kind, form, days, large, control := other(7), api.Value{Kind: api.Int, Text: "\x01"}, day(-1), strLen(conf.MaxString+1), str("\x01")
	name, order := table("A", num(1)), table("b", num(1), "a", num(1))
	expectCheck(t, []checkCase{
		{"kind and form", api.Value{Kind: 7, Text: "a", Int: 1}, api.ErrKind},
		{"form and range", api.Value{Kind: api.Day, Int: -1, Text: "a"}, api.ErrForm},
		{"form and large", api.Value{Kind: api.Int, Text: large.Text}, api.ErrForm},
		{"form and byte", form, api.ErrForm},
		{"form before a name", api.Value{Kind: api.List, Keys: []string{"A"}}, api.ErrForm},
		{"kind first", list(kind, form, days, large, control, name, order), api.ErrKind},
		{"form first", list(form, kind), api.ErrForm},
		{"day first", list(days, kind), api.ErrRange},
		{"large first", list(large, kind), api.ErrLarge},
		{"byte first", list(control, kind), api.ErrByte},
		{"name first", list(name, kind), api.ErrName},
		{"order first", list(order, kind), api.ErrOrder},
		{"keys before Items", table("A", kind), api.ErrName},
		{"order before Items", table("b", kind, "a", kind), api.ErrOrder},
		{"items of the first one before the second one", list(list(list(control)), kind), api.ErrByte},
		{"a value before its Items", api.Value{Kind: api.Day, Int: -1, Items: many(1, kind)}, api.ErrForm},
	})
}

// P2.2: these are in order, and no two are equal.
func orderedValues() []api.Value {
	return []api.Value{
		other(math.MinInt), other(-1),
		null(), {Text: "a"}, {Int: 1}, {Int: 1, Text: "a"}, {Bool: true}, {Bool: true, Keys: []string{"a"}}, {Bool: true, Int: 5},
		truth(false), truth(true),
		num(math.MinInt), num(-1), num(0), num(1), num(math.MaxInt),
		str(""), str("\n"), str("A"), str("a"), str("a "), str("aa"), str("b"), str("\x7f"), str("\x80"), str("\xff"),
		day(0), day(1),
		list(), list(null()), list(null(), null()), list(null(), num(1)), list(num(1)), list(num(1), num(2)), list(num(2)), list(list()), list(list(num(1))), list(list(num(1)), num(1)), list(list(num(2))),
		{Kind: api.List, Keys: []string{"a"}},
		table(), {Kind: api.Table, Items: many(1, num(9))}, table("a", num(1)), table("a", num(2)), table("a", table("a", num(1))), table("a", table("b", null())), table("a", num(0), "b", num(1)), table("a", num(1), "b", num(0)), table("a", num(0), "c", num(0)), table("b", num(0)),
		other(7), {Kind: api.Safe, Text: "a"}, other(math.MaxInt),
	}
}

// P2.2: the order of all values, of settings or not.
func TestCompare(t *testing.T) {
	l := orderedValues()
	for i, a := range l {
		for j, b := range l {
			want := 0
			if i < j {
				want = -1
			} else if i > j {
				want = 1
			}
			if got := conf.Compare(a, b); got != want {
				t.Errorf("Compare(%s, %s) is %d, want %d", show(a), show(b), got, want)
			}
		}
	}
	if conf.Compare(list(), api.Value{Kind: api.List, Items: []api.Value{}, Keys: []string{}}) != 0 {
		t.Error("empty and nil lists are not the same")
	}
}

// P2.2: what is great.
func TestCompareGreat(t *testing.T) {
	const n = 200_000
	for want, pair := range map[int][2]api.Value{
		0:  {nested(n, num(1)), nested(n, num(1))},
		-1: {nested(n, num(1)), nested(n, num(2))},
		1:  {list(many(n+1, num(1))...), list(many(n, num(1))...)},
	} {
		if got := conf.Compare(pair[0], pair[1]); got != want {
			t.Errorf("Compare is %d, want %d", got, want)
		}
	}
}

// P2.2: Compare is an order.
func TestCompareRandom(t *testing.T) {
	r := rand.New(rand.NewSource(1))
	for range 20_000 {
		a, b, c := randomValue(r, 3), randomValue(r, 3), randomValue(r, 3)
		ab, bc, ac := conf.Compare(a, b), conf.Compare(b, c), conf.Compare(a, c)
		if ab != -conf.Compare(b, a) || (ab == 0) != same(a, b) || ab <= 0 && bc <= 0 && ac > 0 {
			t.Fatalf("%s, %s, %s: %d, %d, %d", show(a), show(b), show(c), ab, bc, ac)
		}
	}
}
