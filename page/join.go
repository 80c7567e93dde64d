package page

import (
	"slices"
	"strings"

	"masthead/api"
)

// Join writes a body of which these are the parts.
func Join(l []Part) (string, api.Errno) {
	j := &joiner{}
	j.parts(l)
	if j.full {
		return "", api.ErrLarge
	}
	body := string(j.body)
	if parts, _, e := Split(body); e != api.OK || !sameParts(parts, l) {
		return "", api.ErrForm
	}
	return body, api.OK
}

// joiner stops when it is full: so it goes no deeper than a body can be long.
type joiner struct {
	body []byte
	full bool
}

func (j *joiner) add(l ...string) {
	for _, s := range l {
		j.full = j.full || len(s) > api.MaxBody-len(j.body)
		if !j.full {
			j.body = append(j.body, s...)
		}
	}
}

func (j *joiner) parts(l []Part) {
	for _, p := range l {
		if j.full {
			return
		}
		j.add(p.Text)
		if p.Name != "" {
			j.shortcode(p)
		}
	}
}

func (j *joiner) shortcode(p Part) {
	j.add(opening, p.Name)
	for _, arg := range p.Args {
		if j.full {
			return
		}
		j.add(" ")
		if arg.Name != "" {
			j.add(arg.Name, "=")
		}
		j.quoted(arg.Value)
	}
	if !p.Ends {
		j.add(endWhole, "\n")
		return
	}
	j.add(endOpen, "\n")
	j.parts(p.Inner)
	j.add(closing, p.Name, endOpen, "\n")
}

func (j *joiner) quoted(value string) {
	j.add(`"`)
	// Backslashes make no value shorter: what does not fit as it is need not be written at all.
	if j.full = j.full || len(value) > api.MaxBody-len(j.body); !j.full {
		value = strings.ReplaceAll(value, `\`, `\\`)
		j.add(strings.ReplaceAll(value, `"`, `\"`))
	}
	j.add(`"`)
}

// sameParts compares parts with others. It goes no deeper than these do on both sides.
func sameParts(a, b []Part) bool {
	return slices.EqualFunc(a, b, func(a, b Part) bool {
		return a.Text == b.Text && a.Name == b.Name && a.Ends == b.Ends && slices.Equal(a.Args, b.Args) && sameParts(a.Inner, b.Inner)
	})
}
