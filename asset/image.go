package asset

import (
	"strconv"
	"strings"

	"masthead/api"
)

// maxDigits is how many digits a side of an image can have when it is read.
const maxDigits = 4

// isSide says whether an image can have a side of this length.
func isSide(n int) bool { return n >= 1 && n <= MaxSide }

// CheckImage says whether an image is one.
func CheckImage(m Image) api.Errno {
	if !isSide(m.Width) || !isSide(m.Height) {
		return api.ErrRange
	}
	if len(m.Levels) != m.Width*m.Height {
		return api.ErrForm
	}
	for _, level := range m.Levels {
		if level < 0 || level > MaxLevel {
			return api.ErrRange
		}
	}
	return api.OK
}

// ImageString writes an image.
func ImageString(m Image) (string, api.Errno) {
	if e := CheckImage(m); e != api.OK {
		return "", e
	}
	out := []byte("image " + strconv.Itoa(m.Width) + " " + strconv.Itoa(m.Height) + "\n")
	for i, level := range m.Levels {
		out = append(out, digits16[level])
		if (i+1)%m.Width == 0 {
			out = append(out, '\n')
		}
	}
	return string(out), api.OK
}

// ReadImage reads what ImageString writes.
func ReadImage(s string) (Image, api.Errno) {
	if len(s) > api.MaxBody {
		return Image{}, api.ErrLarge
	}
	m, ok := readImage(s)
	if !ok {
		return Image{}, api.ErrSyntax
	}
	if e := CheckImage(m); e != api.OK {
		return Image{}, e
	}
	return m, api.OK
}

// readImage reads an image with sides of any length.
func readImage(s string) (m Image, ok bool) {
	head, rest, ended := strings.Cut(s, "\n")
	head, named := strings.CutPrefix(head, "image ")
	width, height, two := strings.Cut(head, " ")
	if !ended || !named || !two || !isNumber(width) || !isNumber(height) {
		return Image{}, false
	}
	m.Width, _ = strconv.Atoi(width)
	m.Height, _ = strconv.Atoi(height)
	if len(rest) != m.Height*(m.Width+1) {
		return Image{}, false
	}
	for i := range len(rest) {
		if (i+1)%(m.Width+1) == 0 {
			if rest[i] != '\n' {
				return Image{}, false
			}
			continue
		}
		level := strings.IndexByte(digits16, rest[i])
		if level < 0 {
			return Image{}, false
		}
		m.Levels = append(m.Levels, level)
	}
	return m, true
}

// isNumber says whether a string is the number of a side.
func isNumber(s string) bool {
	if s == "" || len(s) > maxDigits || s[0] == '0' && s != "0" {
		return false
	}
	return strings.Trim(s, "0123456789") == ""
}
