package lang

import (
	"slices"

	"masthead/api"
	"masthead/conf"
)

// Arguments is the names of the arguments of a message.
func Arguments(m Message) ([]string, api.Errno) {
	if _, e := MessageString(m); e != api.OK {
		return nil, e
	}
	var names []string
	for n := range messages(m) {
		for _, p := range n.pieces {
			if p.Kind != Plain && p.Kind != Hash {
				names = append(names, p.Text)
			}
		}
	}
	slices.Sort(names)
	return slices.Compact(names), api.OK
}

// Format writes what a message says with these arguments.
func Format(m Message, l Language, args []Arg) (string, api.Errno) {
	if _, e := MessageString(m); e != api.OK {
		return "", e
	}
	if e := CheckLanguage(l); e != api.OK {
		return "", e
	}
	values, e := valuesOf(args)
	if e != api.OK {
		return "", e
	}
	f := &formatter{language: l, values: values, out: limited{most: conf.MaxString}}
	if e := f.pieces(m.Pieces, 0); e != api.OK {
		return "", e
	}
	return string(f.out.bytes), api.OK
}

// valuesOf is the values of arguments by their names.
func valuesOf(args []Arg) (map[string]api.Value, api.Errno) {
	if len(args) > MaxArgs {
		return nil, api.ErrLarge
	}
	values := map[string]api.Value{}
	for _, a := range args {
		if !isKey(a.Name) {
			return nil, api.ErrName
		}
		if _, there := values[a.Name]; there {
			return nil, api.ErrTwice
		}
		if e := conf.Check(a.Value); e != api.OK {
			return nil, e
		}
		if a.Value.Kind == api.List || a.Value.Kind == api.Table {
			return nil, api.ErrKind
		}
		values[a.Name] = a.Value
	}
	return values, api.OK
}

// formatter writes what pieces say, up to the first error.
type formatter struct {
	language Language
	values   map[string]api.Value
	out      limited
}

// pieces writes pieces within a Count of a number.
func (f *formatter) pieces(l []Piece, counted int) api.Errno {
	for _, p := range l {
		if e := f.part(partOf(p), counted); e != api.OK {
			return e
		}
		if f.out.full {
			return api.ErrLarge
		}
	}
	return api.OK
}

func (f *formatter) part(p part, counted int) api.Errno {
	switch p := p.(type) {
	case insert:
		v, ok := f.values[string(p)]
		if !ok {
			return api.ErrNone
		}
		f.out.add(f.text(v))
	case choose:
		v, e := f.value(p.Text, api.String)
		if e != api.OK {
			return e
		}
		return f.pieces(chosen(p.Ways, v.Text).Pieces, counted)
	case count:
		v, e := f.value(p.Text, api.Int)
		if e != api.OK {
			return e
		}
		return f.pieces(f.counted(p.Ways, v.Int).Pieces, v.Int)
	case hash:
		f.out.add(number(f.language, counted, 0))
	case plain:
		f.out.add(string(p))
	}
	return api.OK
}

// value is that of an argument, which must be of a Kind.
func (f *formatter) value(name string, kind int) (api.Value, api.Errno) {
	v, ok := f.values[name]
	if !ok {
		return api.Value{}, api.ErrNone
	}
	if v.Kind != kind {
		return api.Value{}, api.ErrKind
	}
	return v, api.OK
}

// text is the string of a value.
func (f *formatter) text(v api.Value) string {
	switch v.Kind {
	case api.Bool:
		if v.Bool {
			return "yes"
		}
		return "no"
	case api.Int:
		return number(f.language, v.Int, 0)
	case api.String:
		return v.Text
	case api.Day:
		day, _ := conf.DayString(v.Int)
		return day
	}
	return ""
}

// chosen is the way for a word.
func chosen(ways []Way, word string) Way {
	for _, w := range ways {
		if w.Word == word {
			return w
		}
	}
	return ways[len(ways)-1]
}

// counted is the way for a number.
func (f *formatter) counted(ways []Way, n int) Way {
	for _, want := range []head{{exact: n, form: -1}, {form: formOf(f.language.Rule, n)}} {
		if i := slices.IndexFunc(ways, func(w Way) bool { return headOf(w) == want }); i >= 0 {
			return ways[i]
		}
	}
	return ways[len(ways)-1]
}
