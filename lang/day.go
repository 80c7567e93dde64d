package lang

import (
	"slices"
	"strconv"
	"strings"

	"masthead/api"
	"masthead/conf"
)

// What stands in a pattern for a part of a day.
const (
	fullYear    = "yyyy"
	fullMonth   = "mm"
	shortMonth  = "m"
	monthName   = "MMMM"
	fullNumber  = "dd"
	shortNumber = "d"
	dayName     = "WWWW"
)

// mark is a part of a pattern: what stands for a part of a day, or a byte as it is.
type mark struct {
	of    string // empty: a byte
	plain byte
}

// DayIn writes a day.
func DayIn(l Language, pattern string, day int) (string, api.Errno) {
	marks, e := checkPattern(l, pattern)
	if e != api.OK {
		return "", e
	}
	return dayText(l, marks, day)
}

// checkPattern is the marks of a pattern for a language, both of which it checks.
func checkPattern(l Language, pattern string) ([]mark, api.Errno) {
	if e := CheckLanguage(l); e != api.OK {
		return nil, e
	}
	if len(pattern) > api.MaxPart {
		return nil, api.ErrLarge
	}
	marks, ok := cutPattern(pattern)
	if !ok {
		return nil, api.ErrSyntax
	}
	if countMarks(marks, monthName) > 0 && len(l.Months) == 0 || countMarks(marks, dayName) > 0 && len(l.Days) == 0 {
		return nil, api.ErrNone
	}
	return marks, api.OK
}

func cutPattern(pattern string) (l []mark, ok bool) {
	for pattern != "" {
		m, size := firstMark(pattern)
		if size == 0 {
			return nil, false
		}
		l, pattern = append(l, m), pattern[size:]
	}
	return l, true
}

// firstMark is the mark at the beginning of a pattern, and how many bytes that has: 0, if there can be none.
func firstMark(pattern string) (m mark, size int) {
	for _, of := range []string{fullYear, fullMonth, shortMonth, monthName, fullNumber, shortNumber, dayName} { // the longer ones first
		if strings.HasPrefix(pattern, of) {
			return mark{of: of}, len(of)
		}
	}
	switch c := pattern[0]; {
	case c == '\\' && len(pattern) > 1:
		return mark{plain: pattern[1]}, 2
	case c == '\\' || isLetter(c):
		return mark{}, 0
	}
	return mark{plain: pattern[0]}, 1
}

func isLetter(c byte) bool { return c >= 'a' && c <= 'z' || c >= 'A' && c <= 'Z' }

// countMarks is how many marks are for one of these parts of a day.
func countMarks(marks []mark, of ...string) int {
	n := 0
	for _, m := range marks {
		if slices.Contains(of, m.of) {
			n++
		}
	}
	return n
}

// dayText writes a day by marks.
func dayText(l Language, marks []mark, day int) (string, api.Errno) {
	year, month, number, e := conf.Date(day)
	if e != api.OK {
		return "", e
	}
	weekday, _ := conf.Weekday(day)
	var s strings.Builder
	for _, m := range marks {
		switch m.of {
		case fullYear:
			s.WriteString(strconv.Itoa(year))
		case fullMonth:
			s.WriteString(twoDigits(month))
		case shortMonth:
			s.WriteString(strconv.Itoa(month))
		case monthName:
			s.WriteString(l.Months[month-1])
		case fullNumber:
			s.WriteString(twoDigits(number))
		case shortNumber:
			s.WriteString(strconv.Itoa(number))
		case dayName:
			s.WriteString(l.Days[weekday])
		default:
			s.WriteByte(m.plain)
		}
	}
	return s.String(), api.OK
}

func twoDigits(n int) string { return strconv.Itoa(n/10) + strconv.Itoa(n%10) }

// ReadDayIn is the day of which DayIn writes a string.
func ReadDayIn(l Language, pattern, s string) (int, api.Errno) {
	marks, e := checkPattern(l, pattern)
	if e != api.OK {
		return 0, e
	}
	if !canBeRead(marks) {
		return 0, api.ErrForm
	}
	if len(s) > MaxMessage {
		return 0, api.ErrLarge
	}
	day, e := readDay(l, marks, s)
	if e != api.OK {
		return 0, api.ErrNone
	}
	if text, e := dayText(l, marks, day); e != api.OK || text != s {
		return 0, api.ErrNone
	}
	return day, api.OK
}

// canBeRead says whether no two days are written in the same way.
func canBeRead(marks []mark) bool {
	if countMarks(marks, fullYear) != 1 || countMarks(marks, fullMonth, shortMonth, monthName) != 1 || countMarks(marks, fullNumber, shortNumber) != 1 {
		return false
	}
	for i, m := range marks[1:] {
		before := marks[i].of
		if (before == shortMonth || before == shortNumber) && beginsWithDigit(m) {
			return false
		}
	}
	return true
}

func beginsWithDigit(m mark) bool {
	return isDigit(m.plain) || m.of != "" && m.of != monthName && m.of != dayName
}

// readDay is the only day that can be written as a string; whether it is has still to be looked at.
func readDay(l Language, marks []mark, s string) (int, api.Errno) {
	var year, month, number int
	for _, m := range marks {
		n, size := 0, 1
		switch m.of {
		case fullYear:
			year, size = leadingNumber(s, len(fullYear))
		case fullMonth, shortMonth:
			month, size = leadingNumber(s, len(fullMonth))
		case monthName:
			n, size = leadingName(s, l.Months)
			month = n + 1
		case fullNumber, shortNumber:
			number, size = leadingNumber(s, len(fullNumber))
		case dayName:
			_, size = leadingName(s, l.Days)
		}
		s = s[min(size, len(s)):]
	}
	return conf.DayOf(year, month, number)
}

// leadingNumber is the number at the beginning of a string, of at most so many digits, and how many it has.
func leadingNumber(s string, most int) (n, size int) {
	for size < min(most, len(s)) && isDigit(s[size]) {
		n = n*10 + int(s[size]-'0')
		size++
	}
	return n, size
}

// leadingName is the index of the name at the beginning of a string, or -1, and how many bytes it has.
func leadingName(s string, names []string) (i, size int) {
	i = slices.IndexFunc(names, func(name string) bool { return strings.HasPrefix(s, name) })
	if i < 0 {
		return i, 0
	}
	return i, len(names[i])
}
