package lang_test

import (
	"math"
	"math/rand"
	"strings"
	"testing"

	"masthead/api"
	"masthead/conf"
	"masthead/lang"
)

// dayOf is a day as YYYY-MM-DD.
func dayOf(t *testing.T, s string) int {
	t.Helper()
	d, e := conf.ReadDay(s)
	if e != api.OK {
		t.Fatal(s)
	}
	return d
}

// P8.10: DayIn.
func TestDayIn(t *testing.T) {
	for _, x := range []struct{ day, pattern, want string }{
		{"2024-03-05", "", ""}, {"2024-03-05", "yyyy-mm-dd", "2024-03-05"}, {"2024-03-05", "m/d/yyyy", "3/5/2024"}, {"2024-12-25", "m/d/yyyy", "12/25/2024"}, {"2024-10-09", "m.d", "10.9"}, {"2024-03-05", "WWWW, d. MMMM yyyy", "Dienstag, 5. März 2024"},
		{"1970-01-01", "WWWW MMMM dd yyyy", "Donnerstag Januar 01 1970"}, {"2199-12-31", "WWWW MMMM dd yyyy", "Dienstag Dezember 31 2199"}, {"2024-03-04", "WWWW", "Montag"}, {"2024-03-10", "WWWW", "Sonntag"}, {"2024-01-31", "MMMM", "Januar"}, {"2024-12-01", "MMMM", "Dezember"},
		{"2024-03-05", "mmm", "033"}, {"2024-03-05", "mmmm", "0303"}, {"2024-03-05", "ddd", "055"}, {"2024-03-05", "dmdm", "5353"}, {"2024-03-05", "mmddyyyymd", "0305202435"}, {"2024-03-05", "yyyyyyyy", "20242024"}, {"2024-03-05", "MMMMMMMM", "MärzMärz"}, {"2024-03-05", "WWWWWWWW", "DienstagDienstag"}, {"2024-03-05", "MMMMm", "März3"},
		{"2024-03-05", `\m\d\y\M\W\a\Z`, "mdyMWaZ"}, {"2024-03-05", `\mm`, "m3"}, {"2024-03-05", `m\m`, "3m"}, {"2024-03-05", `\\d`, `\5`}, {"2024-03-05", `\1\.\é`, "1.é"}, {"2024-03-05", "123 ,.-é€\x00\n\x7f#{}", "123 ,.-é€\x00\n\x7f#{}"}, {"2024-03-05", `\` + "\x00", "\x00"}, {"2024-03-05", "@[`{", "@[`{"},
		{"2024-03-05", strings.Repeat("d", 40), strings.Repeat("05", 20)}, {"2024-09-30", strings.Repeat("MMMM", 10), strings.Repeat("September", 10)},
	} {
		got, e := lang.DayIn(german(), x.pattern, dayOf(t, x.day))
		expect(t, x.pattern, got, e, x.want, api.OK)
	}
}

// P8.10: patterns and days that are none.
func TestDayErrors(t *testing.T) {
	bare := lang.Language{Name: "x"}
	noDays, noMonths := german(), german()
	noDays.Days, noMonths.Months = nil, nil
	for _, x := range []struct {
		l       lang.Language
		pattern string
		day     int
		e       api.Errno
	}{
		{bare, strings.Repeat("d", 40), 0, api.OK}, {bare, strings.Repeat("d", 41), 0, api.ErrLarge}, {bare, strings.Repeat("x", 41), -1, api.ErrLarge},
		{bare, "x", -1, api.ErrSyntax}, {bare, "y", 0, api.ErrSyntax}, {bare, "yyy", 0, api.ErrSyntax}, {bare, "yyyyy", 0, api.ErrSyntax}, {bare, "yyyyyy", 0, api.ErrSyntax}, {bare, "M", 0, api.ErrSyntax}, {bare, "MMM", 0, api.ErrSyntax}, {bare, "MM", 0, api.ErrSyntax}, {bare, "W", 0, api.ErrSyntax}, {german(), "MMMMM", 0, api.ErrSyntax}, {german(), "WWWWW", 0, api.ErrSyntax}, {bare, "YYYY", 0, api.ErrSyntax}, {bare, "D", 0, api.ErrSyntax}, {bare, "wwww", 0, api.ErrSyntax}, {bare, "dZ", 0, api.ErrSyntax}, {bare, "a", 0, api.ErrSyntax}, {bare, "A", 0, api.ErrSyntax}, {bare, "z", 0, api.ErrSyntax},
		{bare, `\`, 0, api.ErrSyntax}, {bare, `d\`, -1, api.ErrSyntax}, {bare, `\\\`, 0, api.ErrSyntax}, {bare, "MMMMx", 0, api.ErrSyntax}, {bare, `WWWW\`, 0, api.ErrSyntax},
		{bare, "MMMM", -1, api.ErrNone}, {bare, "WWWW", -1, api.ErrNone}, {noDays, "MMMM", 0, api.OK}, {noDays, "MMMMWWWW", -1, api.ErrNone}, {noMonths, "WWWW", 0, api.OK}, {noMonths, "WWWWMMMM", 0, api.ErrNone}, {bare, `\Mm`, 0, api.OK},
		{bare, "", -1, api.ErrRange}, {bare, "d", -1, api.ErrRange}, {bare, "d", api.MaxDay + 1, api.ErrRange}, {bare, "d", api.MaxDay, api.OK}, {bare, "-", math.MinInt, api.ErrRange}, {bare, "d", math.MaxInt, api.ErrRange},
	} {
		s, e := lang.DayIn(x.l, x.pattern, x.day)
		if e != x.e || e != api.OK && s != "" {
			t.Errorf("%q, %d: %s, error %d, want %d", x.pattern, x.day, s, e, x.e)
		}
		want := x.e
		if want == api.ErrRange || want == api.OK {
			want = api.ErrForm
		}
		if n, e := lang.ReadDayIn(x.l, x.pattern, wide(2001)); e != want || n != 0 {
			t.Errorf("reading %q: %d, error %d, want %d", x.pattern, n, e, want)
		}
	}
}

// P8.10: patterns by which no day can be read.
func TestPatternsToRead(t *testing.T) {
	const long = "x"
	for pattern, want := range map[string]api.Errno{
		"yyyy-mm-dd": api.OK, "yyyy-m-d": api.OK, "yyyymmdd": api.OK, "ddmmyyyy": api.OK, "yyyy.m.dd": api.OK, "yyyymm-d": api.OK, "WWWWyyyyMMMMdWWWW": api.OK, "dMMMMyyyy": api.OK, "mWWWWdWWWWyyyy": api.OK, `yyyym\md\d`: api.OK, "yyyy-m-d ": api.OK, "mmyyyyd": api.OK, "mmd.yyyy": api.OK, "ddm.yyyy": api.OK, "9yyyy9mm9dd9": api.OK, `m\-d\\yyyy`: api.OK, "yyyym\xffd": api.OK,
		"": api.ErrForm, "-": api.ErrForm, "yyyy-mm": api.ErrForm, "yyyy-dd": api.ErrForm, "mm-dd": api.ErrForm, "yyyy-mm-WWWW": api.ErrForm, "yyyy-yyyy-mm-dd": api.ErrForm, "yyyy-mm-mm-dd": api.ErrForm, "yyyy-mm-m-dd": api.ErrForm, "yyyy-m-MMMM-dd": api.ErrForm, "yyyy-MMMM-MMMM-dd": api.ErrForm, "yyyy-mm-dd-dd": api.ErrForm, "yyyy-mm-dd-d": api.ErrForm, "yyyy-mm-d-d": api.ErrForm, "yyyy-mmm-dd": api.ErrForm,
		"mdd-yyyy": api.ErrForm, "md-yyyy": api.ErrForm, "dmm-yyyy": api.ErrForm, "dm-yyyy": api.ErrForm, "myyyy-dd": api.ErrForm, "dyyyy-mm": api.ErrForm, "yyyy-mm-d0": api.ErrForm, "yyyy-mm-d9": api.ErrForm, `yyyy-mm-d\5`: api.ErrForm, "yyyy-dd-m1": api.ErrForm, `yyyy-dd-m\0`: api.ErrForm, "yyyy-MMMM-d5": api.ErrForm,
	} {
		got, e := lang.ReadDayIn(german(), pattern, wide(2001))
		if want == api.OK {
			expect(t, pattern, got, e, 0, api.ErrLarge)
			got, e = lang.ReadDayIn(german(), pattern, wide(2000))
			want = api.ErrNone
		}
		expect(t, pattern+long, got, e, 0, want)
		day := dayOf(t, "2024-03-05")
		if s, wrong := lang.DayIn(german(), pattern, day); want == api.ErrNone {
			got, e = lang.ReadDayIn(german(), pattern, s)
			expect(t, pattern+" "+s, got, e+wrong, day, api.OK)
		}
	}
}

// P8.10: ReadDayIn.
func TestReadDayIn(t *testing.T) {
	const long = "WWWW, d. MMMM yyyy"
	for _, x := range []struct{ pattern, s, want string }{
		{"yyyy-mm-dd", "2024-03-05", "2024-03-05"}, {"yyyy-mm-dd", "2024-3-05", ""}, {"yyyy-mm-dd", "2024-03-5", ""}, {"yyyy-mm-dd", "2024-03-05 ", ""}, {"yyyy-mm-dd", " 2024-03-05", ""}, {"yyyy-mm-dd", "2024-03-0", ""}, {"yyyy-mm-dd", "2024-03-055", ""}, {"yyyy-mm-dd", "2024-03", ""}, {"yyyy-mm-dd", "", ""}, {"yyyy-mm-dd", "2024/03/05", ""}, {"yyyy-mm-dd", "2023-02-29", ""}, {"yyyy-mm-dd", "2024-02-29", "2024-02-29"}, {"yyyy-mm-dd", "2024-00-05", ""}, {"yyyy-mm-dd", "2024-13-05", ""}, {"yyyy-mm-dd", "2024-03-00", ""}, {"yyyy-mm-dd", "2024-03-32", ""},
		{"yyyy-mm-dd", "1969-12-31", ""}, {"yyyy-mm-dd", "1970-01-01", "1970-01-01"}, {"yyyy-mm-dd", "2199-12-31", "2199-12-31"}, {"yyyy-mm-dd", "2200-01-01", ""}, {"yyyy-mm-dd", "02024-03-05", ""}, {"yyyy-mm-dd", "+024-03-05", ""},
		{"d.m.yyyy", "5.3.2024", "2024-03-05"}, {"d.m.yyyy", "05.3.2024", ""}, {"d.m.yyyy", "5.03.2024", ""}, {"d.m.yyyy", "25.12.2024", "2024-12-25"}, {"d.m.yyyy", "025.12.2024", ""}, {"d.m.yyyy", ".3.2024", ""}, {"d.m.yyyy", "5..2024", ""}, {"d.m.yyyy", "5.3.", ""},
		{"yyyymmdd", "20240305", "2024-03-05"}, {"ddmmyyyy", "05032024", "2024-03-05"}, {"mmd.yyyy", "035.2024", "2024-03-05"}, {"mmd.yyyy", "0315.2024", "2024-03-15"}, {`m\m\d-d yyyy`, "3md-5 2024", "2024-03-05"}, {"1yyyy2mm3dd4", "12024203" + "3054", "2024-03-05"},
		{long, "Dienstag, 5. März 2024", "2024-03-05"}, {long, "Montag, 5. März 2024", ""}, {long, "Dienstag, 5. Marz 2024", ""}, {long, "Dienstag, 5. märz 2024", ""}, {long, "Dienstag, 6. März 2024", ""}, {long, "Dienstag, 05. März 2024", ""}, {long, "dienstag, 5. März 2024", ""}, {long, ", 5. März 2024", ""}, {long, "Dienstag, 5.  2024", ""}, {long, "Tuesday, 5. March 2024", ""}, {long, "Sonntag, 31. Dezember 2023", "2023-12-31"}, {long, "Sonntag, 1. Januar 2023", "2023-01-01"},
		{"dMMMMyyyy", "5März2024", "2024-03-05"}, {"WWWWWWWWyyyymmdd", "DienstagDienstag20240305", "2024-03-05"}, {"WWWWWWWWyyyymmdd", "DienstagMontag20240305", ""}, {"WWWWWWWWyyyymmdd", "Dienstag20240305", ""}, {"MMMMyyyydWWWW", "Mai20241Mittwoch", "2024-05-01"},
	} {
		want, e := 0, api.ErrNone
		if x.want != "" {
			want, e = dayOf(t, x.want), api.OK
		}
		got, gotError := lang.ReadDayIn(german(), x.pattern, x.s)
		expect(t, x.pattern+": "+x.s, got, gotError, want, e)
	}
}

var marks = []string{"yyyy", "mm", "m", "MMMM", "dd", "d", "WWWW", "-", ". ", `\m`, "5", `\0`, "é"}

// P8.10: what DayIn writes by a pattern ReadDayIn reads, and nothing else.
func TestDaysAgain(t *testing.T) {
	r := rand.New(rand.NewSource(11))
	read := 0
	for range 20_000 {
		pattern := ""
		for _, mark := range [][]string{{"yyyy"}, {"mm", "m", "MMMM"}, {"dd", "d"}, {"WWWW"}, {"."}} {
			pattern += mark[r.Intn(len(mark))] + marks[7+r.Intn(len(marks)-7)]
		}
		if r.Intn(2) == 0 {
			pattern = ""
			for range r.Intn(8) {
				pattern += marks[r.Intn(len(marks))]
			}
		}
		l := []lang.Language{english(), german()}[r.Intn(2)]
		day := r.Intn(api.MaxDay + 1)
		s, e := lang.DayIn(l, pattern, day)
		if e == api.ErrSyntax { // d and m beside each other can be other marks together
			continue
		}
		got, e2 := lang.ReadDayIn(l, pattern, s)
		if e2 == api.ErrForm {
			continue
		}
		read++
		expect(t, pattern+": "+s, got, e+e2, day, api.OK)
		i := r.Intn(len(s))
		flawed := s[:i] + string("0123456789 -aM"[r.Intn(14)]) + s[min(len(s), i+r.Intn(2)):]
		got, e = lang.ReadDayIn(l, pattern, flawed)
		if again, _ := lang.DayIn(l, pattern, got); e == api.OK && again != flawed {
			t.Errorf("%s is read as %s", flawed, again)
		}
	}
	if read < 3000 {
		t.Errorf("only %d days are read", read)
	}
}
