package tmpl_test

import (
	"math"
	"math/big"
	"math/rand"
	"slices"
	"strings"
	"testing"

	"masthead/api"
	"masthead/conf"
	"masthead/tmpl"
)

const greatest = 999_999_999_999_999

// call is a call of Apply.
type call struct {
	name string
	args []api.Value
	want api.Value
	e    api.Errno
}

func args(l ...api.Value) []api.Value { return l }

func testCalls(t *testing.T, calls []call) {
	t.Helper()
	for _, c := range calls {
		got, e := tmpl.Apply(c.name, c.args)
		expect(t, c.name+show(c.args), got, e, c.want, c.e)
	}
}

// right is a call that returns a value, wrong one that returns an error.
func right(name string, want api.Value, l ...api.Value) call { return call{name, l, want, api.OK} }
func wrong(name string, e api.Errno, l ...api.Value) call    { return call{name, l, null(), e} }

// P5.9: functions of strings.
func TestStringFunctions(t *testing.T) {
	testCalls(t, []call{
		right("len", num(0), str("")),
		right("len", num(3), str("a\x00\xff")),
		right("len", num(2), safe("ab")),
		right("len", num(2), listOf(null(), listOf(num(1), num(2)))),
		right("len", num(0), table()),
		right("len", num(1), table("a", null())),
		wrong("len", api.ErrKind, num(1)),
		wrong("len", api.ErrKind, null()),
		wrong("len", api.ErrKind, day(1)),
		wrong("len", api.ErrKind, fact("a")),
		right("upper", str("AZ@[`{09\xe4é"), str("az@[`{09\xe4é")),
		right("upper", str("AZAZ"), safe("azAZ")),
		right("lower", str("azaz@[`{\xc4É"), str("AZaz@[`{\xc4É")),
		wrong("upper", api.ErrKind, num(1)),
		wrong("lower", api.ErrKind, fact("a")),
		right("trim", str("a \n\tb"), str(" \t\na \n\tb\n ")),
		right("trim", str("\ra\v"), str(" \ra\v ")),
		right("trim", str(""), safe(" \n")),
		wrong("trim", api.ErrKind, listOf()),
		right("slug", str("hello-world-é"), str("Hello,  World! é")),
		right("slug", str(""), str("--")),
		wrong("slug", api.ErrKind, day(0)),
		right("plain", str("x & <y>"), safe("<b>x</b> &amp; &lt;y&gt;")),
		right("plain", str("ab"), safe("a<i\n\"q\">b<c")),
		right("plain", str("a>b"), safe("a>b<")),
		right("plain", str("a b"), safe("a<<x> b")),
		right("plain", str("\"'"), safe("&quot;&#39;")),
		right("plain", str("<b>&amp;"), str("<b>&amp;")),
		wrong("plain", api.ErrKind, null()),
		right("split", listOf(str("a"), str(""), str("b")), str("a,,b"), str(",")),
		right("split", listOf(str("")), str(""), safe("ab")),
		right("split", listOf(str(""), str("a")), safe("aaa"), str("aa")),
		right("split", listOf(str("a"), str("")), str("ab"), str("b")),
		wrong("split", api.ErrRange, str("a"), str("")),
		wrong("split", api.ErrKind, num(1), str("")),
		wrong("split", api.ErrKind, str("a"), num(1)),
		right("replace", str("ba"), str("aaa"), str("aa"), str("b")),
		right("replace", str("x"), str("a"), safe("a"), safe("x")),
		right("replace", str("aaaa"), str("aa"), str("a"), str("aa")),
		right("replace", str("bc"), str("bac"), str("a"), str("")),
		wrong("replace", api.ErrRange, str("a"), str(""), str("b")),
		wrong("replace", api.ErrKind, str("a"), str(""), null()),
		wrong("replace", api.ErrKind, str("a"), fact("b"), str("b")),
		wrong("replace", api.ErrKind, listOf(), str("b"), str("b")),
		right("string", str("true"), truth(true)),
		right("string", str("-5"), num(-5)),
		right("string", str("1970-01-02"), day(1)),
		right("string", str(""), null()),
		right("string", str("<b>"), safe("<b>")),
		wrong("string", api.ErrRange, day(-1)),
		wrong("string", api.ErrKind, listOf()),
		wrong("string", api.ErrKind, fact("a")),
		wrong("string", api.ErrKind, other(9)),
	})
}

// P5.9: functions of lists and tables.
func TestListFunctions(t *testing.T) {
	l := listOf(num(1), str("a"), null())
	testCalls(t, []call{
		right("join", str("1-a--true-1970-01-01-<b>"), listOf(num(1), str("a"), null(), truth(true), day(0), safe("<b>")), str("-")),
		right("join", str(""), listOf(), str("-")),
		right("join", str("a"), listOf(str("a")), safe("-")),
		right("join", str("ab"), listOf(str("a"), str("b")), str("")),
		wrong("join", api.ErrKind, listOf(str("a"), listOf()), str("-")),
		wrong("join", api.ErrKind, listOf(table()), str("-")),
		wrong("join", api.ErrKind, listOf(fact("a")), str("-")),
		wrong("join", api.ErrRange, listOf(day(-1)), str("-")),
		wrong("join", api.ErrKind, table("a", str("b")), str("-")),
		wrong("join", api.ErrKind, listOf(day(-1)), num(1)),
		right("first", listOf(num(1), str("a")), l, num(2)),
		right("first", listOf(), l, num(0)),
		right("first", l, l, num(3)),
		right("first", l, l, num(math.MaxInt)),
		right("first", listOf(fact("a")), listOf(fact("a")), num(1)),
		wrong("first", api.ErrRange, l, num(-1)),
		wrong("first", api.ErrKind, l, str("1")),
		wrong("first", api.ErrKind, str("abc"), num(-1)),
		right("last", listOf(str("a"), null()), l, num(2)),
		right("last", listOf(), l, num(0)),
		right("last", l, l, num(4)),
		wrong("last", api.ErrRange, l, num(math.MinInt)),
		wrong("last", api.ErrKind, table(), num(1)),
		right("reverse", listOf(null(), str("a"), num(1)), l),
		right("reverse", listOf(), listOf()),
		right("reverse", listOf(table("a", num(1)), fact("x")), listOf(fact("x"), table("a", num(1)))),
		wrong("reverse", api.ErrKind, str("abc")),
		right("has", truth(true), l, safe("a")),
		right("has", truth(true), l, null()),
		right("has", truth(false), l, num(2)),
		right("has", truth(false), l, day(1)),
		right("has", truth(false), listOf(), null()),
		right("has", truth(false), listOf(listOf(), table(), other(9)), listOf()),
		right("has", truth(false), listOf(listOf(num(1))), num(1)),
		wrong("has", api.ErrKind, listOf(num(1), fact("a")), num(1)),
		wrong("has", api.ErrKind, l, fact("a")),
		wrong("has", api.ErrKind, table("a", num(1)), num(1)),
		right("keys", listOf(str("a"), str("b")), table("a", num(1), "b", null())),
		right("keys", listOf(), table()),
		right("keys", listOf(str("b"), str("a"), str("b")), api.Value{Kind: api.Table, Keys: []string{"b", "a", "b"}}),
		wrong("keys", api.ErrKind, l),
		right("list", listOf(num(1), listOf(num(2))), num(1), listOf(num(2))),
		right("list", listOf(fact("a"), other(9)), fact("a"), other(9)),
		right("default", num(1), num(1), num(2)),
		right("default", num(2), num(0), num(2)),
		right("default", safe("a"), safe("a"), null()),
		right("default", null(), safe(""), null()),
		right("default", fact("a"), fact("a"), num(1)),
		right("default", fact("a"), null(), fact("a")),
		right("default", table("a", num(1)), table(), table("a", num(1))),
	})
}

// P5.9: sort and where.
func TestSortAndWhere(t *testing.T) {
	a, b, c := table("k", num(2), "n", str("a")), table("k", num(1), "n", str("b")), table("k", num(2), "n", str("c"))
	none, empty, list := table("n", str("d")), table(), table("k", listOf(num(1)))
	twice := api.Value{Kind: api.Table, Keys: []string{"k", "k"}, Items: []api.Value{num(0), num(5)}}
	bare := api.Value{Kind: api.Table, Keys: []string{"a", "k"}, Items: []api.Value{num(7)}}
	unnamed := api.Value{Kind: api.Table, Keys: []string{""}, Items: []api.Value{num(7)}}
	testCalls(t, []call{
		right("sort", listOf(b, a, c), listOf(a, b, c), str("k")),
		right("sort", listOf(b, c, a), listOf(c, b, a), safe("k")),
		right("sort", listOf(none, empty, b, a), listOf(a, none, b, empty), str("k")),
		right("sort", listOf(twice, b, a), listOf(a, b, twice), str("k")),
		right("sort", listOf(bare, b), listOf(b, bare), str("k")),
		right("sort", listOf(a, b), listOf(a, b), str("x")),
		right("sort", listOf(), listOf(), str("k")),
		right("sort", listOf(none, list), listOf(list, none), str("k")),
		right("sort", listOf(num(1), num(2), num(10)), listOf(num(10), num(2), num(1)), str("")),
		right("sort", listOf(null(), null(), str("A"), safe("a"), str("b")), listOf(safe("a"), null(), str("b"), str("A"), null()), str("")),
		right("sort", listOf(null(), truth(false), truth(true)), listOf(truth(true), truth(false), null()), str("")),
		right("sort", listOf(day(-1), day(3)), listOf(day(3), day(-1)), str("")),
		right("sort", listOf(null(), null()), listOf(null(), null()), str("")),
		right("sort", listOf(listOf(num(1))), listOf(listOf(num(1))), str("")),
		right("sort", listOf(null(), other(-9)), listOf(other(-9), null()), str("")),
		right("sort", listOf(safe("a"), str("a"), safe("a")), listOf(safe("a"), str("a"), safe("a")), str("")),
		wrong("sort", api.ErrKind, listOf(num(1), str("1")), str("")),
		wrong("sort", api.ErrKind, listOf(null(), num(1), day(1)), str("")),
		wrong("sort", api.ErrKind, listOf(listOf(), listOf()), str("")),
		wrong("sort", api.ErrKind, listOf(num(1), listOf()), str("")),
		wrong("sort", api.ErrKind, listOf(num(1), num(2), truth(true)), str("")),
		wrong("sort", api.ErrKind, listOf(fact("a")), str("")),
		wrong("sort", api.ErrKind, listOf(null(), fact("a")), str("")),
		wrong("sort", api.ErrKind, listOf(fact("a")), str("k")),
		wrong("sort", api.ErrKind, listOf(table("k", fact("a"))), str("k")),
		right("sort", listOf(table("x", fact("a"))), listOf(table("x", fact("a"))), str("k")),
		wrong("sort", api.ErrKind, listOf(a, num(1)), str("k")),
		wrong("sort", api.ErrKind, listOf(null()), str("k")),
		wrong("sort", api.ErrKind, listOf(a, table("k", str("1"))), str("k")),
		wrong("sort", api.ErrKind, a, str("k")),
		wrong("sort", api.ErrKind, listOf(a), num(1)),
		wrong("sort", api.ErrKind, listOf(a), null()),
		right("where", listOf(a, c), listOf(a, b, c, none, list), str("k"), num(2)),
		right("where", listOf(none, empty), listOf(a, none, list, empty), safe("k"), null()),
		right("where", listOf(a), listOf(a, b), str("n"), safe("a")),
		right("where", listOf(), listOf(a, b), str("k"), str("2")),
		right("where", listOf(), listOf(a, list), str("k"), listOf(num(1))),
		right("where", listOf(), listOf(a), str("k"), other(9)),
		right("where", listOf(twice), listOf(twice), str("k"), num(0)),
		right("where", listOf(bare), listOf(bare, a), str("k"), null()),
		right("where", listOf(unnamed), listOf(a, unnamed), str(""), num(7)),
		right("where", listOf(a), listOf(a, unnamed), str(""), null()),
		right("where", listOf(), listOf(), str("k"), null()),
		wrong("where", api.ErrKind, listOf(a, num(1)), str("k"), num(2)),
		wrong("where", api.ErrKind, listOf(a, fact("x")), str("k"), num(2)),
		wrong("where", api.ErrKind, listOf(num(1)), str(""), num(1)),
		wrong("where", api.ErrKind, listOf(a, table("k", fact("x"))), str("k"), num(2)),
		wrong("where", api.ErrKind, listOf(a), str("k"), fact("x")),
		wrong("where", api.ErrKind, listOf(a), num(1), num(1)),
		wrong("where", api.ErrKind, table(), str("k"), num(1)),
	})
}

// P5.9: functions of numbers.
func TestNumberFunctions(t *testing.T) {
	testCalls(t, []call{
		right("add", num(-1), num(2), num(-3)),
		right("add", num(greatest), num(greatest-1), num(1)),
		wrong("add", api.ErrRange, num(greatest), num(1)),
		wrong("add", api.ErrRange, num(-greatest), num(-1)),
		wrong("add", api.ErrRange, num(greatest+1), num(-5)),
		wrong("add", api.ErrRange, num(-5), num(greatest+1)),
		wrong("add", api.ErrRange, num(math.MaxInt), num(math.MaxInt)),
		right("sub", num(5), num(2), num(-3)),
		right("sub", num(-greatest), num(-greatest), num(0)),
		wrong("sub", api.ErrRange, num(-greatest), num(1)),
		wrong("sub", api.ErrRange, num(math.MinInt), num(math.MinInt)),
		right("mul", num(-6), num(2), num(-3)),
		right("mul", num(0), num(0), num(greatest)),
		right("mul", num(0), num(-greatest), num(0)),
		right("mul", num(-greatest), num(greatest), num(-1)),
		right("mul", num(greatest), num(-333_333_333_333_333), num(-3)),
		wrong("mul", api.ErrRange, num(500_000_000_000_000), num(2)),
		wrong("mul", api.ErrRange, num(-500_000_000_000_000), num(2)),
		wrong("mul", api.ErrRange, num(1<<32), num(1<<32)),
		wrong("mul", api.ErrRange, num(0), num(math.MinInt)),
		wrong("mul", api.ErrRange, num(math.MinInt), num(-1)),
		right("div", num(3), num(7), num(2)),
		right("div", num(-4), num(7), num(-2)),
		right("div", num(-4), num(-7), num(2)),
		right("div", num(3), num(-7), num(-2)),
		right("div", num(-3), num(-6), num(2)),
		right("div", num(0), num(0), num(-5)),
		right("div", num(-1), num(-1), num(greatest)),
		wrong("div", api.ErrRange, num(1), num(0)),
		wrong("div", api.ErrRange, num(greatest+1), num(2)),
		wrong("div", api.ErrRange, num(2), num(-greatest-1)),
		right("mod", num(1), num(7), num(2)),
		right("mod", num(-1), num(7), num(-2)),
		right("mod", num(1), num(-7), num(2)),
		right("mod", num(-1), num(-7), num(-2)),
		right("mod", num(0), num(-6), num(2)),
		right("mod", num(0), num(6), num(-2)),
		right("mod", num(greatest-1), num(-1), num(greatest)),
		wrong("mod", api.ErrRange, num(1), num(0)),
		wrong("mod", api.ErrRange, num(math.MinInt), num(-1)),
		right("year", num(1972), day(789)),
		right("month", num(2), day(789)),
		right("day", num(29), day(789)),
		right("year", num(2199), day(api.MaxDay)),
		right("month", num(1), day(0)),
		right("day", num(1), day(0)),
		wrong("year", api.ErrRange, day(-1)),
		wrong("month", api.ErrRange, day(api.MaxDay+1)),
		wrong("day", api.ErrRange, day(math.MinInt)),
	})
	for _, name := range []string{"add", "sub", "mul", "div", "mod"} {
		for _, v := range []api.Value{str("1"), day(1), null(), truth(true), fact("a"), listOf(num(1))} {
			testCalls(t, []call{wrong(name, api.ErrKind, v, num(0)), wrong(name, api.ErrKind, num(greatest+1), v)})
		}
	}
	for _, name := range []string{"year", "month", "day"} {
		testCalls(t, []call{wrong(name, api.ErrKind, num(1)), wrong(name, api.ErrKind, str("1970-01-01"))})
	}
}

// P5.9: the functions of numbers reckon as numbers without a bound do.
func TestReckoning(t *testing.T) {
	r := rand.New(rand.NewSource(3))
	random := func() int {
		n := r.Intn(greatest + 1)
		if r.Intn(2) == 0 {
			n >>= r.Intn(50)
		}
		return n * (1 - 2*r.Intn(2))
	}
	for range 5000 {
		a, b := random(), random()
		for name, reckon := range map[string]func(z, a, b *big.Int) *big.Int{"add": (*big.Int).Add, "sub": (*big.Int).Sub, "mul": (*big.Int).Mul, "div": floorDiv, "mod": floorMod} {
			v, e := tmpl.Apply(name, args(num(a), num(b)))
			if b == 0 && (name == "div" || name == "mod") {
				continue
			}
			want := reckon(new(big.Int), big.NewInt(int64(a)), big.NewInt(int64(b)))
			fits := want.CmpAbs(big.NewInt(greatest)) <= 0
			if fits && (e != api.OK || int64(v.Int) != want.Int64()) || !fits && e != api.ErrRange {
				t.Fatalf("%s of %d and %d: %d, error %d; want %v", name, a, b, v.Int, e, want)
			}
		}
	}
}

func floorMod(z, a, b *big.Int) *big.Int {
	z.Mod(a, b) // never below 0
	if z.Sign() != 0 && b.Sign() < 0 {
		z.Add(z, b)
	}
	return z
}

func floorDiv(z, a, b *big.Int) *big.Int {
	rest := floorMod(new(big.Int), a, b)
	return z.Quo(new(big.Int).Sub(a, rest), b)
}

// P5.9: names and numbers of arguments come first, then kinds.
func TestApplyErrors(t *testing.T) {
	testCalls(t, []call{
		wrong("", api.ErrName),
		wrong("foo", api.ErrName),
		wrong("foo", api.ErrName, fact("a")),
		wrong("Len", api.ErrName, str("a")),
		wrong("len", api.ErrName),
		wrong("len", api.ErrName, fact("a"), fact("b")),
		wrong("add", api.ErrName, num(1)),
		wrong("fact", api.ErrName),
		wrong("fact", api.ErrName, str("a"), str("b")),
		wrong("fact", api.ErrKind, str("a")),
		wrong("fact", api.ErrKind, fact("a")),
		wrong("div", api.ErrKind, num(1), fact("a")),
	})
}

// P5.9: how large results can be.
func TestApplyLarge(t *testing.T) {
	out := strings.Repeat("a", api.MaxOut)
	items := listOf(many(tmpl.MaxItems, num(1))...)
	more := listOf(many(tmpl.MaxItems+1, num(1))...)
	inner := listOf(listOf(many(tmpl.MaxItems/2-2, num(1))...), table("k", listOf(many(tmpl.MaxItems/2-2, num(1))...))) // with all its own, as many as can be
	full := listOf(append(inner.Items[:2:2], num(1))...)
	testCalls(t, []call{
		right("upper", str(strings.ToUpper(out)), str(out)),
		wrong("upper", api.ErrLarge, str(out+"a")),
		wrong("trim", api.ErrLarge, str(out+"a")),
		right("trim", str(out), str(out+" ")),
		right("len", num(api.MaxOut+1), str(out+"a")),
		wrong("string", api.ErrLarge, safe(out+"a")),
		wrong("plain", api.ErrLarge, str(out+"a")),
		right("plain", str(out), safe(out+"<a>")),
		wrong("default", api.ErrLarge, str(out+"a"), null()),
		wrong("default", api.ErrLarge, null(), safe(out+"a")),
		right("join", str(out), listOf(str(out[:api.MaxOut/2]), str(out[api.MaxOut/2:])), str("")),
		wrong("join", api.ErrLarge, listOf(str(out), str("")), str("a")),
		right("join", str(out), listOf(str(out[1:]), str("")), str("a")),
		wrong("join", api.ErrKind, listOf(str(out), str("a"), fact("x")), str("")),
		wrong("join", api.ErrRange, listOf(str(out), str("a"), day(-1)), str("")),
		right("replace", str(out), str(out[:api.MaxOut/2]), str("a"), str("aa")),
		wrong("replace", api.ErrLarge, str(out[:api.MaxOut/2+1]), str("a"), str("aa")),
		right("replace", str(out), str(out+"b"), str("b"), str("")),
		right("replace", str(out), str(out+out), str("aa"), str("a")),
		wrong("replace", api.ErrRange, str(out+"a"), str(""), str("")),
		right("split", listOf(many(tmpl.MaxItems, str(""))...), str(out[:tmpl.MaxItems-1]), str("a")),
		wrong("split", api.ErrLarge, str(out[:tmpl.MaxItems]), str("a")),
		wrong("split", api.ErrRange, str(out), str("")),
		right("reverse", items, items),
		wrong("reverse", api.ErrLarge, more),
		right("first", items, more, num(tmpl.MaxItems)),
		wrong("first", api.ErrLarge, more, num(tmpl.MaxItems+1)),
		right("last", items, more, num(tmpl.MaxItems)),
		wrong("last", api.ErrLarge, more, num(math.MaxInt)),
		right("reverse", listOf(full.Items[2], full.Items[1], full.Items[0]), full),
		wrong("reverse", api.ErrLarge, listOf(append(full.Items[:3:3], num(1))...)),
		wrong("list", api.ErrLarge, items, null()),
		right("list", listOf(listOf(many(tmpl.MaxItems-2, num(1))...), null()), listOf(many(tmpl.MaxItems-2, num(1))...), null()),
		wrong("list", api.ErrLarge, listOf(many(tmpl.MaxItems-1, num(1))...), null()),
		wrong("sort", api.ErrLarge, more, str("")),
		wrong("sort", api.ErrKind, listOf(append(more.Items[:len(more.Items):len(more.Items)], str("a"))...), str("")),
		wrong("where", api.ErrLarge, listOf(many(tmpl.MaxItems/2+1, table("k", num(1)))...), str("k"), num(1)),
		right("where", listOf(many(tmpl.MaxItems/2, table("k", num(1)))...), listOf(many(tmpl.MaxItems/2, table("k", num(1)))...), str("k"), num(1)),
		right("has", truth(true), more, num(1)),
		right("len", num(tmpl.MaxItems+1), more),
		wrong("default", api.ErrLarge, more, null()),
		right("default", table("k", more), table("k", more), null()),
		wrong("keys", api.ErrLarge, api.Value{Kind: api.Table, Keys: make([]string, tmpl.MaxItems+1)}),
	})
	if _, e := tmpl.Apply("replace", args(str(strings.Repeat("a", 5_000_000)), str("a"), str(strings.Repeat("b", 5_000_000)))); e != api.ErrLarge {
		t.Errorf("a string that is too large for memory: error %d", e)
	}
	if _, e := tmpl.Apply("join", args(listOf(many(1_000_000, str(out))...), str(out))); e != api.ErrLarge {
		t.Errorf("another one: error %d", e)
	}
	if _, e := tmpl.Apply("join", args(listOf(many(1_000_000, null())...), str(out))); e != api.ErrLarge {
		t.Errorf("one of what is between: error %d", e)
	}
	if _, e := tmpl.Apply("list", args(nested(100_000, null()), null())); e != api.ErrLarge {
		t.Errorf("a deep list: error %d", e)
	}
	if v, e := tmpl.Apply("default", args(table("a", nested(100_000, null())), null())); e != api.OK || v.Kind != api.Table {
		t.Errorf("a deep table: error %d", e)
	}
}

// P5.9: sort orders as a plain sort of what is compared does.
func TestSortRandom(t *testing.T) {
	r := rand.New(rand.NewSource(4))
	for range 300 {
		var items, want []api.Value
		for i := range r.Intn(60) {
			v := table("n", num(i))
			if r.Intn(4) > 0 {
				v = table("k", str([]string{"", "a", "b", "ab"}[r.Intn(4)]), "n", num(i))
			}
			items = append(items, v)
		}
		for i := range items { // insertion keeps equal ones in order
			at, _ := slices.BinarySearchFunc(want, items[i], func(a, b api.Value) int {
				if conf.Compare(key(a), key(b)) > 0 {
					return 1
				}
				return -1
			})
			want = slices.Insert(want, at, items[i])
		}
		got, e := tmpl.Apply("sort", args(listOf(items...), str("k")))
		expect(t, show(items), got, e, listOf(want...), api.OK)
	}
}

// key is the value of k, or Nil.
func key(v api.Value) api.Value {
	if len(v.Keys) == 2 {
		return v.Items[0]
	}
	return null()
}
