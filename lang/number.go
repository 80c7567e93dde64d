package lang

import (
	"strconv"
	"strings"

	"masthead/api"
)

const groupSize = 3 // digits

// Number writes a number.
func Number(l Language, n int) (string, api.Errno) { return Fixed(l, n, 0) }

// Fixed writes a number of which so many digits are after the point.
func Fixed(l Language, n, digits int) (string, api.Errno) {
	if e := CheckLanguage(l); e != api.OK {
		return "", e
	}
	if digits < 0 || digits > MaxDigits {
		return "", api.ErrRange
	}
	return number(l, n, digits), api.OK
}

func number(l Language, n, digits int) string {
	all := strconv.FormatUint(withoutSign(n), 10)
	all = strings.Repeat("0", max(0, digits+1-len(all))) + all
	cut := len(all) - digits
	s := inGroups(all[:cut], l.Group)
	if n < 0 {
		s = "-" + s
	}
	if digits > 0 {
		s += l.Point + all[cut:]
	}
	return s
}

// inGroups divides digits from the right.
func inGroups(digits, between string) string {
	var s strings.Builder
	for i := range len(digits) {
		if i > 0 && (len(digits)-i)%groupSize == 0 {
			s.WriteString(between)
		}
		s.WriteByte(digits[i])
	}
	return s.String()
}
