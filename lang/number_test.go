package lang_test

import (
	"fmt"
	"math"
	"math/big"
	"math/rand"
	"strings"
	"testing"

	"masthead/api"
	"masthead/lang"
)

// P8.9: Number.
func TestNumber(t *testing.T) {
	for _, x := range []struct {
		group string
		n     int
		want  string
	}{
		{".", 0, "0"}, {".", 7, "7"}, {".", -7, "-7"}, {".", 999, "999"}, {".", -999, "-999"}, {".", 1000, "1.000"}, {".", -1000, "-1.000"}, {".", 99_999, "99.999"}, {".", 100_000, "100.000"}, {".", 1_234_567, "1.234.567"}, {".", math.MaxInt, "9.223.372.036.854.775.807"}, {".", math.MinInt, "-9.223.372.036.854.775.808"},
		{"", 1_234_567, "1234567"}, {"", -1000, "-1000"}, {" ' ", 1_234_567, "1 ' 234 ' 567"}, {"1", 1000, "11000"}, {"\u202f", -12_345, "-12\u202f345"},
	} {
		l := lang.Language{Name: "x", Group: x.group, Point: "p"}
		got, e := lang.Number(l, x.n)
		expect(t, x.group+show(x.n), got, e, x.want, api.OK)
		got, e = lang.Fixed(l, x.n, 0)
		expect(t, x.group+show(x.n)+" Fixed", got, e, x.want, api.OK)
	}
}

// P8.9: Fixed.
func TestFixed(t *testing.T) {
	l := lang.Language{Name: "x", Group: ".", Point: ","}
	for _, x := range []struct {
		n, digits int
		want      string
		e         api.Errno
	}{
		{0, 0, "0", api.OK}, {0, 1, "0,0", api.OK}, {0, 9, "0,000000000", api.OK}, {5, 2, "0,05", api.OK}, {-5, 2, "-0,05", api.OK}, {50, 2, "0,50", api.OK}, {100, 2, "1,00", api.OK}, {-100, 2, "-1,00", api.OK}, {99, 2, "0,99", api.OK}, {123_456, 2, "1.234,56", api.OK}, {-123_456_789, 3, "-123.456,789", api.OK}, {1_234_567, 1, "123.456,7", api.OK}, {1000, 3, "1,000", api.OK}, {1_000_000, 3, "1.000,000", api.OK},
		{1_234_567, 6, "1,234567", api.OK}, {999_999_999, 9, "0,999999999", api.OK}, {1_000_000_000, 9, "1,000000000", api.OK}, {math.MinInt, 9, "-9.223.372.036,854775808", api.OK}, {math.MaxInt, 9, "9.223.372.036,854775807", api.OK}, {math.MinInt, 1, "-922.337.203.685.477.580,8", api.OK},
		{1, 10, "", api.ErrRange}, {1, -1, "", api.ErrRange}, {0, math.MinInt, "", api.ErrRange}, {0, math.MaxInt, "", api.ErrRange},
	} {
		got, e := lang.Fixed(l, x.n, x.digits)
		expect(t, fmt.Sprint(x.n, " ", x.digits), got, e, x.want, x.e)
	}
	got, e := lang.Fixed(lang.Language{Name: "x"}, -123_456, 2)
	expect(t, "no Point", got, e, "-123456", api.OK)
}

// P8.9: random numbers, with the quotient and the rest.
func TestRandomNumbers(t *testing.T) {
	r := rand.New(rand.NewSource(10))
	for range 10_000 {
		n, digits := r.Int()>>r.Intn(63), r.Intn(lang.MaxDigits+1)
		if r.Intn(2) == 0 {
			n = -n
		}
		power := big.NewInt(int64(math.Pow10(digits)))
		whole, rest := new(big.Int).QuoRem(new(big.Int).Abs(big.NewInt(int64(n))), power, new(big.Int))
		s := whole.String()
		for i := len(s) - 3; i > 0; i -= 3 {
			s = s[:i] + "_" + s[i:]
		}
		if digits > 0 {
			s += "." + fmt.Sprintf("%0*d", digits, rest)
		}
		if n < 0 {
			s = "-" + s
		}
		got, e := lang.Fixed(lang.Language{Name: "x", Group: "_", Point: "."}, n, digits)
		expect(t, fmt.Sprint(n, " ", digits), got, e, s, api.OK)
	}
	if s, e := lang.Number(lang.Language{Name: "x", Group: wide(8)}, -1_000_000); e != api.OK || s != strings.Join([]string{"-1", "000", "000"}, wide(8)) {
		t.Errorf("%s, error %d", s, e)
	}
}
