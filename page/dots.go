package page

import (
	"slices"
	"strings"

	"masthead/api"
	"masthead/mark"
	"masthead/tree"
)

// Dot is the dot of the template of a shortcode.
func Dot(p Part, address, inner string) api.Value {
	args := api.Value{Kind: api.List}
	var named []api.Named
	for _, arg := range p.Args {
		if arg.Name == "" {
			args.Items = append(args.Items, stringField("", arg.Value).Value)
		} else {
			named = append(named, stringField(arg.Name, arg.Value))
		}
	}
	within := api.Named{Name: "inner"}
	if p.Ends {
		within = safeField("inner", inner)
	}
	return tableOf(api.Named{Name: "args", Value: args}, within, api.Named{Name: "named", Value: tableOf(named...)}, pageField(address))
}

// Fields is the dot of the template of a hook, for a node.
func Fields(n mark.Node, address, id, inner string) api.Value {
	dest, title, text, within := stringField("dest", n.Dest), stringField("title", n.Title), stringField("text", n.Text), safeField("inner", inner)
	switch n.Kind {
	case mark.Link:
		return tableOf(pageField(address), dest, title, within)
	case mark.Image:
		return tableOf(pageField(address), dest, title, text)
	case mark.Heading:
		level := api.Named{Name: "level", Value: api.Value{Kind: api.Int, Int: n.Level}}
		return tableOf(pageField(address), stringField("id", id), level, within, stringField("text", headingText(n)))
	case mark.Fence:
		return tableOf(pageField(address), text, stringField("info", n.Dest))
	}
	return tableOf(pageField(address))
}

// headingText is the plain string of a Heading.
func headingText(n mark.Node) string {
	s, _ := mark.Plain([]mark.Node{n})
	return strings.TrimSuffix(s, "\n")
}

func stringField(key, s string) api.Named {
	return api.Named{Name: key, Value: api.Value{Kind: api.String, Text: s}}
}

func safeField(key, html string) api.Named {
	return api.Named{Name: key, Value: api.Value{Kind: api.Safe, Text: html}}
}

func pageField(address string) api.Named {
	return api.Named{Name: "page", Value: api.Value{Kind: api.Fact, Text: tree.FactName(address)}}
}

// tableOf is a table of fields, of those with one name the first one.
func tableOf(fields ...api.Named) api.Value {
	slices.SortStableFunc(fields, func(a, b api.Named) int { return strings.Compare(a.Name, b.Name) })
	v := api.Value{Kind: api.Table}
	for i, field := range fields {
		if i == 0 || field.Name != fields[i-1].Name {
			v.Keys, v.Items = append(v.Keys, field.Name), append(v.Items, field.Value)
		}
	}
	return v
}
