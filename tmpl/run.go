package tmpl

import (
	"strings"

	"masthead/api"
	"masthead/mark"
)

// Run runs a template of a set, with a dot and facts.
func Run(set []Source, name string, dot api.Value, facts []api.Named) (Result, api.Errno) {
	r := newRunner(facts)
	templates, fault := readSet(set, r.known)
	if fault.E != api.OK {
		return Result{}, api.ErrSyntax
	}
	if templates[name] == nil {
		return Result{}, api.ErrNone
	}
	r.templates = templates
	if e := caught(func() { r.template(name, dot) }); e != api.OK {
		return Result{}, e
	}
	return Result{r.pieces, r.reads}, api.OK
}

// template runs a template with a dot, without variables.
func (r *runner) template(name string, dot api.Value) {
	outer, variables := r.dot, r.variables
	r.dot, r.variables = dot, nil
	r.record("template:" + name)
	r.parts(r.templates[name].parts)
	r.dot, r.variables = outer, variables
}

// parts runs nodes; the variables that they make are gone after them.
func (r *runner) parts(l []*part) {
	before := len(r.variables)
	for _, x := range l {
		r.step()
		r.part(x)
	}
	r.variables = r.variables[:before]
}

// body runs a Body, or an Else that is not empty.
func (r *runner) body(l []*part) {
	r.step()
	r.parts(l)
}

// choose runs the Body or the Else of a node.
func (r *runner) choose(x *part, body bool) {
	if body {
		r.body(x.body)
	} else if len(x.other) > 0 {
		r.body(x.other)
	}
}

func (r *runner) part(x *part) {
	switch x.Kind {
	case Text:
		r.add(Piece{Text: x.Text})
	case Insert:
		r.add(Piece{x.context, inserted(x, r.value(x.Expr))})
	case If:
		r.choose(x, r.isTrue(x.Expr))
	case Each:
		r.each(x, r.value(x.Expr))
	case With:
		r.with(x, r.value(x.Expr))
	case Let:
		r.variables = append(r.variables, variable{x.Name, r.eval(x.Expr)})
	case Call:
		dot := r.eval(x.Expr)
		demand(r.calls < api.MaxDeep, api.ErrDeep)
		r.calls++
		r.template(x.Name, dot)
		r.calls--
	}
}

// add adds a piece, if there is room for it.
func (r *runner) add(p Piece) {
	demand(len(p.Text) <= api.MaxOut-r.size, api.ErrLarge)
	r.size += len(p.Text)
	r.pieces = append(r.pieces, p)
}

// inserted is a value as a string that cannot change what is around it.
func inserted(x *part, v api.Value) string {
	switch {
	case x.context == Json:
		e := checkQuoted(v, 1)
		demand(e == api.OK, e)
		return quoted(v, api.MaxOut)
	case x.context == Addr:
		return EscapeAddr(shown(v), x.first)
	case x.context == Data && v.Kind == api.Safe:
		return v.Text
	}
	return mark.Escape(shown(v))
}

func (r *runner) each(x *part, v api.Value) {
	demand(v.Kind == api.List || v.Kind == api.Table || v.Kind == api.Nil, api.ErrKind)
	if v.Kind == api.Nil || len(v.Items) == 0 {
		r.choose(x, false)
		return
	}
	before := len(r.variables)
	for _, item := range v.Items {
		r.variables = append(r.variables, variable{x.Name, item})
		r.body(x.body)
		r.variables = r.variables[:before]
	}
}

func (r *runner) with(x *part, v api.Value) {
	outer := r.dot
	if Truth(v) {
		r.dot = v
	}
	r.choose(x, Truth(v))
	r.dot = outer
}

// String is pieces, joined.
func String(l []Piece) string {
	return joined(l, func(p Piece) string { return p.Text })
}

// Skeleton is pieces, joined, with something plain in place of what has been inserted.
func Skeleton(l []Piece) string {
	return joined(l, func(p Piece) string {
		switch p.Context {
		case Data, Raw, Attr:
			return "x"
		case Addr:
			return "/"
		case Json:
			return "0"
		}
		return p.Text
	})
}

func joined(l []Piece, text func(Piece) string) string {
	var b strings.Builder
	for _, p := range l {
		b.WriteString(text(p))
	}
	return b.String()
}
