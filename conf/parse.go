package conf

import (
	"maps"
	"slices"
	"strconv"
	"strings"

	"masthead/api"
)

// Parse reads a string as a table. With an error it returns where that is.
func Parse(s string) (api.Value, Pos, api.Errno) {
	if len(s) > MaxText {
		return api.Value{}, Pos{}, api.ErrLarge
	}
	r := &reader{tokens: tokens{text: s}, values: 1}
	v, e := r.table(endToken, 1)
	if e != api.OK {
		return api.Value{}, r.pos(), e
	}
	return v, Pos{}, api.OK
}

// reader reads values; it counts them.
type reader struct {
	tokens
	values int
}

// table reads entries, up to a token of some kind.
func (r *reader) table(closing byte, level int) (api.Value, api.Errno) {
	items := map[string]api.Value{}
	for separated := true; ; {
		if e := r.read(false); e != api.OK {
			return api.Value{}, e
		}
		switch {
		case r.kind == closing:
			return tableOf(items), api.OK
		case r.kind == '\n' || r.kind == ';':
			separated = true
			continue
		case !separated:
			return api.Value{}, api.ErrSyntax
		}
		if e := r.entry(items, level); e != api.OK {
			return api.Value{}, e
		}
		separated = false
	}
}

func tableOf(items map[string]api.Value) api.Value {
	v := api.Value{Kind: api.Table, Keys: slices.Sorted(maps.Keys(items))}
	for _, key := range v.Keys {
		v.Items = append(v.Items, items[key])
	}
	return v
}

// entry reads the entry that the token begins.
func (r *reader) entry(items map[string]api.Value, level int) api.Errno {
	key := r.word
	if r.kind != wordToken || !isKey(key) {
		return api.ErrSyntax
	}
	if _, ok := items[key]; ok {
		return api.ErrTwice
	}
	if e := r.read(false); e != api.OK {
		return e
	}
	item, e := r.value(level + 1)
	items[key] = item
	return e
}

// value reads the value that the token begins.
func (r *reader) value(level int) (api.Value, api.Errno) {
	v, e := r.head()
	if e != api.OK {
		return api.Value{}, e
	}
	if level > MaxDepth {
		return api.Value{}, api.ErrDeep
	}
	r.values++
	if r.values > MaxValues {
		return api.Value{}, api.ErrLarge
	}
	switch v.Kind {
	case api.List:
		return r.list(level)
	case api.Table:
		return r.table('}', level)
	}
	return v, api.OK
}

// head is what the token alone says of the value that it begins: all of it, but for the Items.
func (r *reader) head() (api.Value, api.Errno) {
	switch r.kind {
	case wordToken:
		return wordValue(r.word)
	case '"':
		if len(r.word) > MaxString {
			return api.Value{}, api.ErrLarge
		}
		return api.Value{Kind: api.String, Text: r.word}, api.OK
	case '[':
		return api.Value{Kind: api.List}, api.OK
	case '{':
		return api.Value{Kind: api.Table}, api.OK
	}
	return api.Value{}, api.ErrSyntax
}

func (r *reader) list(level int) (api.Value, api.Errno) {
	v := api.Value{Kind: api.List}
	for {
		if e := r.read(true); e != api.OK {
			return api.Value{}, e
		}
		if r.kind == ']' {
			return v, api.OK
		}
		item, e := r.value(level + 1)
		if e != api.OK {
			return api.Value{}, e
		}
		v.Items = append(v.Items, item)
	}
}

// wordValue is the value for which a word stands.
func wordValue(word string) (api.Value, api.Errno) {
	switch word {
	case "nil":
		return api.Value{}, api.OK
	case "yes", "no":
		return api.Value{Kind: api.Bool, Bool: word == "yes"}, api.OK
	}
	if isInteger(word) {
		n, err := strconv.ParseInt(word, 10, 64)
		if err != nil {
			return api.Value{}, api.ErrRange
		}
		return api.Value{Kind: api.Int, Int: int(n)}, api.OK
	}
	day, e := ReadDay(word)
	if e != api.OK {
		return api.Value{}, e
	}
	return api.Value{Kind: api.Day, Int: day}, api.OK
}

func isInteger(s string) bool {
	number, minus := strings.CutPrefix(s, "-")
	return isNumber(number) && !(minus && number == "0")
}

// isNumber says whether a string is digits, without a 0 before others.
func isNumber(s string) bool {
	return s == "0" || s != "" && s[0] != '0' && allDigits(s)
}

func allDigits(s string) bool {
	for i := range len(s) {
		if !isDigit(s[i]) {
			return false
		}
	}
	return true
}
