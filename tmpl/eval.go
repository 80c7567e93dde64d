package tmpl

import (
	"slices"

	"masthead/api"
)

// Eval is the value of an expression, and the names of the facts that were looked up for it.
func Eval(x Expr, dot api.Value, facts []api.Named) (api.Value, []string, api.Errno) {
	r := newRunner(facts)
	if e := checkExpr(x, r.known); e != api.OK {
		return api.Value{}, nil, e
	}
	r.dot = dot
	var v api.Value
	if e := caught(func() { v = clone(r.eval(x)) }); e != api.OK {
		return api.Value{}, nil, e
	}
	return v, r.reads, api.OK
}

// runner runs templates; what it cannot do it throws as an error.
type runner struct {
	known     functions
	facts     []api.Named
	found     map[string]api.Value // the facts that have been looked up
	isRead    map[string]bool
	reads     []string
	dot       api.Value
	variables []variable // one hides those before it
	steps     int
	calls     int // within each other
	templates map[string]*template
	pieces    []Piece
	size      int // of the pieces
}

type variable struct {
	name  string
	value api.Value
}

func newRunner(facts []api.Named) *runner {
	return &runner{known: allFunctions(), facts: facts, found: map[string]api.Value{}, isRead: map[string]bool{}}
}

// step counts what is about to happen.
func (r *runner) step() {
	r.steps++
	demand(r.steps <= MaxSteps, api.ErrLarge)
}

// record notes that something has been read.
func (r *runner) record(name string) {
	if !r.isRead[name] {
		r.isRead[name] = true
		r.reads = append(r.reads, name)
	}
}

// lookUp is the value for which a value stands.
func (r *runner) lookUp(v api.Value) api.Value {
	for looked := 0; v.Kind == api.Fact; looked++ {
		demand(looked < api.MaxDeep, api.ErrDeep)
		r.record(v.Text)
		v = r.fact(v.Text)
	}
	return v
}

// fact is the value of the fact with a name, or Nil.
func (r *runner) fact(name string) api.Value {
	v, ok := r.found[name]
	if !ok {
		if i := slices.IndexFunc(r.facts, func(f api.Named) bool { return f.Name == name }); i >= 0 {
			v = r.facts[i].Value
		}
		r.found[name] = v
	}
	return v
}

// value is the value of an expression, looked up.
func (r *runner) value(x Expr) api.Value { return r.lookUp(r.eval(x)) }

func (r *runner) isTrue(x Expr) bool { return Truth(r.value(x)) }

func (r *runner) eval(x Expr) api.Value {
	r.step()
	switch x.Kind {
	case Const:
		return x.Value
	case Dot:
		return r.dot
	case Var:
		return r.variable(x.Name)
	case Field:
		if v := r.value(x.Args[0]); v.Kind == api.Table {
			return itemOf(v, x.Name)
		}
		return api.Value{}
	case At:
		v := r.value(x.Args[0])
		return itemIn(v, r.value(x.Args[1]))
	case Func:
		return r.function(x)
	case Not:
		return truth(!r.isTrue(x.Args[0]))
	case And:
		return truth(r.isTrue(x.Args[0]) && r.isTrue(x.Args[1]))
	case Or:
		return truth(r.isTrue(x.Args[0]) || r.isTrue(x.Args[1]))
	}
	a := r.value(x.Args[0])
	return truth(holds(x.Name, a, r.value(x.Args[1])))
}

// variable is the value of the last variable with a name.
func (r *runner) variable(name string) api.Value {
	for _, v := range slices.Backward(r.variables) {
		if v.name == name {
			return v.value
		}
	}
	panic(api.ErrName)
}

// itemIn is what a value has at a number or a key.
func itemIn(v, place api.Value) api.Value {
	switch {
	case v.Kind == api.List && place.Kind == api.Int:
		return itemAt(v.Items, place.Int)
	case v.Kind == api.Table && place.Kind == api.String:
		return itemOf(v, place.Text)
	}
	panic(api.ErrKind)
}

// function calls a function; two of them are not made for values alone.
func (r *runner) function(x Expr) api.Value {
	switch x.Name {
	case "fact":
		return api.Value{Kind: api.Fact, Text: shown(r.value(x.Args[0]))}
	case "default":
		if v := r.value(x.Args[0]); Truth(v) {
			return v
		}
		return r.eval(x.Args[1])
	}
	var args []api.Value
	for _, arg := range x.Args {
		args = append(args, r.value(arg))
	}
	return r.known.apply(x.Name, args)
}

// holds says whether a comparison holds for two values.
func holds(sign string, a, b api.Value) bool {
	order, e := Compare(a, b)
	switch sign {
	case "==":
		return e == api.OK && order == 0
	case "!=":
		return e != api.OK || order != 0
	}
	demand(e == api.OK, e)
	switch sign {
	case "<":
		return order < 0
	case "<=":
		return order <= 0
	case ">":
		return order > 0
	}
	return order >= 0
}
