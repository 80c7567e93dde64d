package conf

import (
	"strconv"

	"masthead/api"
)

const (
	firstYear = 1970
	lastYear  = 2199
)

func isDay(day int) bool { return day >= 0 && day <= api.MaxDay }

// ReadDay reads a day as YYYY-MM-DD.
func ReadDay(s string) (int, api.Errno) {
	if len(s) != len("YYYY-MM-DD") || s[4] != '-' || s[7] != '-' || !allDigits(s[:4]+s[5:7]+s[8:]) {
		return 0, api.ErrSyntax
	}
	year, _ := strconv.Atoi(s[:4])
	month, _ := strconv.Atoi(s[5:7])
	number, _ := strconv.Atoi(s[8:])
	return DayOf(year, month, number)
}

// DayString writes a day as YYYY-MM-DD.
func DayString(day int) (string, api.Errno) {
	if !isDay(day) {
		return "", api.ErrRange
	}
	return dayWord(day), api.OK
}

func dayWord(day int) string {
	year, month, number := date(day)
	return strconv.Itoa(year) + "-" + twoDigits(month) + "-" + twoDigits(number)
}

func twoDigits(n int) string { return strconv.Itoa(n/10) + strconv.Itoa(n%10) }

// Date is the year, the month and the number in the month of a day.
func Date(day int) (year, month, number int, e api.Errno) {
	if !isDay(day) {
		return 0, 0, 0, api.ErrRange
	}
	year, month, number = date(day)
	return year, month, number, api.OK
}

func date(day int) (year, month, number int) {
	year, month = firstYear, 1
	for day >= daysOfYear(year) {
		day -= daysOfYear(year)
		year++
	}
	for day >= daysOfMonth(year, month) {
		day -= daysOfMonth(year, month)
		month++
	}
	return year, month, day + 1
}

// DayOf is the day of a year, a month and a number in it.
func DayOf(year, month, number int) (int, api.Errno) {
	if year < firstYear || year > lastYear || month < 1 || month > 12 || number < 1 || number > daysOfMonth(year, month) {
		return 0, api.ErrRange
	}
	day := number - 1
	for y := firstYear; y < year; y++ {
		day += daysOfYear(y)
	}
	for m := 1; m < month; m++ {
		day += daysOfMonth(year, m)
	}
	return day, api.OK
}

func daysOfYear(year int) int {
	if isLeap(year) {
		return 366
	}
	return 365
}

func daysOfMonth(year, month int) int {
	switch month {
	case 2:
		if isLeap(year) {
			return 29
		}
		return 28
	case 4, 6, 9, 11:
		return 30
	}
	return 31
}

func isLeap(year int) bool { return year%4 == 0 && (year%100 != 0 || year%400 == 0) }

// Weekday is 0 for Monday to 6 for Sunday.
func Weekday(day int) (int, api.Errno) {
	if !isDay(day) {
		return 0, api.ErrRange
	}
	return (day + 3) % 7, api.OK
}

// AddMonths is the day so many months later, or the last one of that month.
func AddMonths(day, months int) (int, api.Errno) {
	if !isDay(day) || months < -MaxMonths || months > MaxMonths {
		return 0, api.ErrRange
	}
	year, month, number := date(day)
	months += year*12 + month - 1
	year, month = months/12, months%12+1
	return DayOf(year, month, min(number, daysOfMonth(year, month)))
}
