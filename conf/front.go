package conf

import (
	"strings"

	"masthead/api"
)

const divider = "%%%"

// Front divides a body into the settings at its beginning and the rest.
func Front(body string) (api.Value, string, Pos, api.Errno) {
	if len(body) > api.MaxBody {
		return api.Value{}, "", Pos{}, api.ErrLarge
	}
	first, after, _ := strings.Cut(body, "\n")
	if first != divider {
		return api.Value{Kind: api.Table}, body, Pos{}, api.OK
	}
	settings, rest, ok := cutDivider(after)
	if !ok {
		return api.Value{}, "", Pos{Line: 1, Column: 1}, api.ErrSyntax
	}
	v, pos, e := Parse(settings)
	if e != api.OK {
		pos.Line++ // that of the divider
		return api.Value{}, "", pos, e
	}
	return v, rest, Pos{}, api.OK
}

// cutDivider is what is before the first line that is a divider, and what is after it.
func cutDivider(s string) (before, after string, ok bool) {
	for at := 0; at < len(s); {
		line, after, _ := strings.Cut(s[at:], "\n")
		if line == divider {
			return s[:at], after, true
		}
		at = len(s) - len(after)
	}
	return "", "", false
}

// Join puts settings before the rest of a body.
func Join(v api.Value, rest string) (string, api.Errno) {
	body, e := Print(v)
	if e != api.OK {
		return "", e
	}
	first, _, _ := strings.Cut(rest, "\n")
	if len(v.Keys) > 0 || first == divider {
		body = divider + "\n" + body + divider + "\n"
	}
	if len(rest) > api.MaxBody-len(body) {
		return "", api.ErrLarge
	}
	return body + rest, api.OK
}
