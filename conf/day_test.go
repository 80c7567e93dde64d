package conf_test

import (
	"fmt"
	"math"
	"testing"
	"time"

	"masthead/api"
	"masthead/conf"
)

// P2.16: all days there are.
func TestDays(t *testing.T) {
	start := time.Date(1970, 1, 1, 0, 0, 0, 0, time.UTC)
	for day := range api.MaxDay + 1 {
		want := start.AddDate(0, 0, day)
		word := want.Format("2006-01-02")
		if s, e := conf.DayString(day); e != api.OK || s != word {
			t.Fatalf("DayString(%d): %s, error %d; want %s", day, s, e, word)
		}
		if n, e := conf.ReadDay(word); e != api.OK || n != day {
			t.Fatalf("ReadDay(%s): %d, error %d; want %d", word, n, e, day)
		}
		y, m, d, e := conf.Date(day)
		if e != api.OK || y != want.Year() || m != int(want.Month()) || d != want.Day() {
			t.Fatalf("Date(%d): %d, %d, %d, error %d; want %s", day, y, m, d, e, word)
		}
		if n, e := conf.DayOf(y, m, d); e != api.OK || n != day {
			t.Fatalf("DayOf(%s): %d, error %d; want %d", word, n, e, day)
		}
		if n, e := conf.Weekday(day); e != api.OK || n != (int(want.Weekday())+6)%7 {
			t.Fatalf("Weekday(%s): %d, error %d", word, n, e)
		}
	}
	if s, _ := conf.DayString(api.MaxDay); s != "2199-12-31" {
		t.Errorf("the last day is %s", s)
	}
}

// P2.16: strings that are no days.
func TestReadDayErrors(t *testing.T) {
	for s, want := range map[string]api.Errno{
		"": api.ErrSyntax, "2000": api.ErrSyntax, "2000-01": api.ErrSyntax, "2000-01-1": api.ErrSyntax, "2000-1-01": api.ErrSyntax, "200-01-01": api.ErrSyntax, "20000-01-01": api.ErrSyntax, "2000-01-001": api.ErrSyntax, "2000/01/01": api.ErrSyntax, "2000-01_01": api.ErrSyntax, "2000_01-01": api.ErrSyntax, "20000101": api.ErrSyntax, "2000-01-01 ": api.ErrSyntax, " 2000-01-01": api.ErrSyntax,
		"2000-01-0x": api.ErrSyntax, "2000-0x-01": api.ErrSyntax, "x000-01-01": api.ErrSyntax, "+000-01-01": api.ErrSyntax, "-000-01-01": api.ErrSyntax, "2000-+1-01": api.ErrSyntax, "2000--1-01": api.ErrSyntax, "2000-01--1": api.ErrSyntax, "2000-13-0x": api.ErrSyntax, "2000-01-\xff1": api.ErrSyntax, "2_00-01-01": api.ErrSyntax,
		"1969-12-31": api.ErrRange, "2200-01-01": api.ErrRange, "0000-01-01": api.ErrRange, "0000-00-00": api.ErrRange, "9999-12-31": api.ErrRange, "2000-00-01": api.ErrRange, "2000-13-01": api.ErrRange, "2000-01-00": api.ErrRange, "2000-01-32": api.ErrRange, "2000-04-31": api.ErrRange, "2000-06-31": api.ErrRange, "2000-09-31": api.ErrRange, "2000-11-31": api.ErrRange,
		"2000-02-30": api.ErrRange, "2001-02-29": api.ErrRange, "2100-02-29": api.ErrRange, "1900-02-28": api.ErrRange, "1970-01-01": api.OK, "2199-12-31": api.OK, "2000-02-29": api.OK,
	} {
		if n, e := conf.ReadDay(s); e != want || e != api.OK && n != 0 {
			t.Errorf("ReadDay(%q): %d, error %d; want %d", s, n, e, want)
		}
	}
}

// P2.16: numbers that are no days.
func TestDayErrors(t *testing.T) {
	for _, day := range []int{math.MinInt, math.MinInt32, -1, api.MaxDay + 1, math.MaxInt32, math.MaxInt - 3, math.MaxInt} {
		if s, e := conf.DayString(day); e != api.ErrRange || s != "" {
			t.Errorf("DayString(%d): %q, error %d", day, s, e)
		}
		if y, m, n, e := conf.Date(day); e != api.ErrRange || y != 0 || m != 0 || n != 0 {
			t.Errorf("Date(%d): %d, %d, %d, error %d", day, y, m, n, e)
		}
		if n, e := conf.Weekday(day); e != api.ErrRange || n != 0 {
			t.Errorf("Weekday(%d): %d, error %d", day, n, e)
		}
		if n, e := conf.AddMonths(day, 0); e != api.ErrRange || n != 0 {
			t.Errorf("AddMonths(%d): %d, error %d", day, n, e)
		}
	}
	for _, d := range [][3]int{
		{1969, 12, 31}, {2200, 1, 1}, {0, 1, 1}, {-2000, 1, 1}, {2000, 0, 1}, {2000, 13, 1}, {2000, -1, 1}, {2000, 1, 0}, {2000, 1, 32}, {2000, 1, -1}, {2000, 2, 30}, {2001, 2, 29}, {2100, 2, 29}, {2000, 4, 31},
		{math.MaxInt, 1, 1}, {math.MinInt, 1, 1}, {2000, math.MaxInt, 1}, {2000, math.MinInt, 1}, {2000, 1, math.MaxInt}, {2000, 1, math.MinInt}, {math.MinInt, math.MinInt, math.MinInt}, {math.MaxInt, math.MaxInt, math.MaxInt},
	} {
		if n, e := conf.DayOf(d[0], d[1], d[2]); e != api.ErrRange || n != 0 {
			t.Errorf("DayOf(%v): %d, error %d", d, n, e)
		}
	}
}

// P2.17: months later and earlier.
func TestAddMonths(t *testing.T) {
	for _, c := range []struct {
		day    string
		months int
		want   string
	}{
		{"2024-01-31", 1, "2024-02-29"}, {"2023-01-31", 1, "2023-02-28"}, {"2024-01-31", 0, "2024-01-31"}, {"2024-01-31", 2, "2024-03-31"}, {"2024-01-31", 3, "2024-04-30"}, {"2024-01-31", 12, "2025-01-31"}, {"2024-01-15", 11, "2024-12-15"}, {"2024-12-15", 1, "2025-01-15"}, {"2024-02-29", 12, "2025-02-28"}, {"2024-02-29", 48, "2028-02-29"}, {"2096-02-29", 48, "2100-02-28"},
		{"2024-03-31", -1, "2024-02-29"}, {"2024-01-15", -1, "2023-12-15"}, {"2024-01-15", -12, "2023-01-15"}, {"2024-01-15", -13, "2022-12-15"}, {"2024-12-31", -1, "2024-11-30"}, {"2024-02-29", -1, "2024-01-29"}, {"2024-02-29", -288, "2000-02-29"},
		{"1970-01-01", 0, "1970-01-01"}, {"1970-02-01", -1, "1970-01-01"}, {"1970-01-31", 2759, "2199-12-31"}, {"2199-12-31", -2759, "1970-01-31"}, {"2199-12-31", 0, "2199-12-31"}, {"2199-11-30", 1, "2199-12-30"},
	} {
		day, _ := conf.ReadDay(c.day)
		n, e := conf.AddMonths(day, c.months)
		if s, _ := conf.DayString(n); e != api.OK || s != c.want {
			t.Errorf("AddMonths(%s, %d): %s, error %d; want %s", c.day, c.months, s, e, c.want)
		}
	}
	last, _ := conf.ReadDay("2199-12-01")
	for _, c := range [][2]int{
		{0, -1}, {30, -1}, {0, -conf.MaxMonths}, {0, conf.MaxMonths}, {0, conf.MaxMonths + 1}, {0, -conf.MaxMonths - 1}, {last, 1}, {api.MaxDay, 1}, {api.MaxDay, conf.MaxMonths}, {api.MaxDay, -conf.MaxMonths}, {api.MaxDay, -2760}, {0, 2760}, {0, math.MaxInt}, {0, math.MinInt}, {api.MaxDay, math.MaxInt}, {api.MaxDay, math.MinInt}, {math.MaxInt, math.MaxInt}, {math.MinInt, math.MinInt},
	} {
		if n, e := conf.AddMonths(c[0], c[1]); e != api.ErrRange || n != 0 {
			t.Errorf("AddMonths(%d, %d): %d, error %d", c[0], c[1], n, e)
		}
	}
}

// P2.17: the number in the month stays, or is the last one.
func TestAddMonthsEverywhere(t *testing.T) {
	for day := 0; day <= api.MaxDay; day += 13 {
		y, m, number, _ := conf.Date(day)
		for months := -40; months <= 40; months++ {
			n, e := conf.AddMonths(day, months)
			first := time.Date(y, time.Month(m+months), 1, 0, 0, 0, 0, time.UTC)
			last := first.AddDate(0, 1, -1).Day()
			if first.Year() < 1970 || first.Year() > 2199 {
				if e != api.ErrRange || n != 0 {
					t.Fatalf("AddMonths(%d, %d): %d, error %d", day, months, n, e)
				}
				continue
			}
			want := fmt.Sprintf("%s-%02d", first.Format("2006-01"), min(number, last))
			if s, _ := conf.DayString(n); e != api.OK || s != want {
				t.Fatalf("AddMonths(%d, %d): %s, error %d; want %s", day, months, s, e, want)
			}
		}
	}
}
