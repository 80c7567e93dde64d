package conf

import (
	"strconv"
	"strings"

	"masthead/api"
)

// Print writes a table in the language of settings.
func Print(v api.Value) (string, api.Errno) {
	if e := Check(v); e != api.OK {
		return "", e
	}
	if v.Kind != api.Table {
		return "", api.ErrKind
	}
	p := &printer{escapes: strings.NewReplacer("\n", `\n`, "\t", `\t`, `"`, `\"`, `\`, `\\`)}
	p.entries(v, "")
	if p.Len() > MaxText {
		return "", api.ErrLarge
	}
	return p.String(), api.OK
}

type printer struct {
	strings.Builder
	escapes *strings.Replacer
}

// entries writes a line for each key, with an indent before it.
func (p *printer) entries(v api.Value, indent string) {
	for i, key := range v.Keys {
		p.WriteString(indent + key + " ")
		p.value(v.Items[i], indent)
		p.WriteByte('\n')
	}
}

// value writes a value into a line with that indent.
func (p *printer) value(v api.Value, indent string) {
	switch v.Kind {
	case api.String:
		p.WriteString(`"` + p.escapes.Replace(v.Text) + `"`)
	case api.List:
		p.list(v, indent)
	case api.Table:
		p.WriteByte('{')
		if len(v.Keys) > 0 {
			p.WriteByte('\n')
			p.entries(v, indent+"  ")
			p.WriteString(indent)
		}
		p.WriteByte('}')
	default:
		p.WriteString(plainWord(v))
	}
}

func (p *printer) list(v api.Value, indent string) {
	p.WriteByte('[')
	for i, item := range v.Items {
		if i > 0 {
			p.WriteByte(' ')
		}
		p.value(item, indent)
	}
	p.WriteByte(']')
}

// plainWord is the word for a Nil, Bool, Int or Day.
func plainWord(v api.Value) string {
	switch v.Kind {
	case api.Bool:
		if v.Bool {
			return "yes"
		}
		return "no"
	case api.Int:
		return strconv.Itoa(v.Int)
	case api.Day:
		return dayWord(v.Int)
	}
	return "nil"
}
