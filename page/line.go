package page

import (
	"strings"

	"masthead/api"
)

// How lines of shortcodes begin and end.
const (
	opening  = "{< "
	closing  = "{< /"
	endOpen  = " >}" // of a line that opens a shortcode, or closes it
	endWhole = " />}"
)

// maxName is how many bytes the name of a shortcode or of an argument can have.
const maxName = 20

// Line reads a line that opens a shortcode, or stands for a whole one.
func Line(s string) (Part, api.Errno) {
	if !strings.HasPrefix(s, opening) || strings.HasPrefix(s, closing) {
		return Part{}, api.ErrNone
	}
	p, ok := readLine(s[len(opening):])
	switch {
	case !ok:
		return Part{}, api.ErrSyntax
	case len(p.Args) > MaxArgs:
		return Part{}, api.ErrLarge
	}
	if e := checkNames(p.Args); e != api.OK {
		return Part{}, e
	}
	return p, api.OK
}

// readLine reads the line of a shortcode from its name on. Arguments that are too many are read, but not kept.
func readLine(s string) (p Part, ok bool) {
	n := leading(s, isNameByte)
	if n == 0 || n > maxName {
		return Part{}, false
	}
	p.Name, s = s[:n], s[n:]
	for s != endOpen && s != endWhole {
		var arg Arg
		if arg, s, ok = readArg(s); !ok {
			return Part{}, false
		}
		if len(p.Args) <= MaxArgs {
			p.Args = append(p.Args, arg)
		}
	}
	p.Ends = s == endOpen
	return p, true
}

// readArg reads an argument, and the space before it.
func readArg(s string) (arg Arg, rest string, ok bool) {
	if s, ok = strings.CutPrefix(s, " "); !ok {
		return Arg{}, "", false
	}
	n := leading(s, isWordByte)
	if n > 0 && n <= maxName && isSmall(s[0]) && strings.HasPrefix(s[n:], "=") {
		arg.Name, s = s[:n], s[n+1:]
	}
	arg.Value, rest, ok = readValue(s)
	return arg, rest, ok
}

// readValue reads a value in quotation marks, or one without them.
func readValue(s string) (value, rest string, ok bool) {
	if quoted, ok := strings.CutPrefix(s, `"`); ok {
		return readQuoted(quoted)
	}
	n := leading(s, isPlainByte)
	return s[:n], s[n:], n > 0 && s[0] != ':'
}

// readQuoted reads a value from behind its first quotation mark on.
func readQuoted(s string) (value, rest string, ok bool) {
	var b strings.Builder
	for i := 0; i < len(s) && s[i] >= ' '; i++ {
		switch {
		case s[i] == '"':
			return b.String(), s[i+1:], true
		case s[i] == '\\':
			i++
			if i == len(s) || s[i] != '"' && s[i] != '\\' {
				return "", "", false
			}
		}
		b.WriteByte(s[i])
	}
	return "", "", false
}

// checkNames says whether each name is there once only, and no argument without one comes after one with a name.
func checkNames(args []Arg) api.Errno {
	ordered := true
	for i, arg := range args {
		for _, earlier := range args[:i] {
			if arg.Name != "" && arg.Name == earlier.Name {
				return api.ErrTwice
			}
			ordered = ordered && (arg.Name != "" || earlier.Name == "")
		}
	}
	if !ordered {
		return api.ErrOrder
	}
	return api.OK
}

// closed is the name in a line that closes a shortcode.
func closed(line string) (name string, ok bool) {
	name, begins := strings.CutPrefix(line, closing)
	name, ends := strings.CutSuffix(name, endOpen)
	n := len(name)
	return name, begins && ends && n > 0 && n <= maxName && leading(name, isNameByte) == n
}

// leading is how many bytes at the beginning of a string are wanted ones.
func leading(s string, wanted func(c byte) bool) int {
	for i := range len(s) {
		if !wanted(s[i]) {
			return i
		}
	}
	return len(s)
}

func isSmall(c byte) bool { return c >= 'a' && c <= 'z' }

func isDigit(c byte) bool { return c >= '0' && c <= '9' }

// isNameByte says whether a byte can be in the name of a shortcode.
func isNameByte(c byte) bool { return isSmall(c) || isDigit(c) || c == '-' }

// isWordByte says whether a byte can be in the name of an argument.
func isWordByte(c byte) bool { return isSmall(c) || isDigit(c) || c == '_' }

// isPlainByte says whether a byte can be in a value without quotation marks.
func isPlainByte(c byte) bool {
	return isSmall(c) || c >= 'A' && c <= 'Z' || isDigit(c) || strings.IndexByte("-_./:", c) >= 0
}
