package list

import (
	"strings"

	"masthead/api"
	"masthead/conf"
)

// Holds says whether a condition holds for a value.
func Holds(c Cond, v api.Value) (bool, api.Errno) {
	if e := CheckCond(c); e != api.OK {
		return false, e
	}
	if e := CheckItem(v); e != api.OK {
		return false, e
	}
	return c.holds(v), api.OK
}

// Where is the positions of the items for which a condition holds.
func Where(l []api.Value, c Cond) ([]int, api.Errno) {
	if e := checkItems(l); e != api.OK {
		return nil, e
	}
	if e := CheckCond(c); e != api.OK {
		return nil, e
	}
	return choose(l, c.holds), api.OK
}

func (c Cond) holds(v api.Value) bool {
	switch c.Op {
	case And, Or:
		for _, kid := range c.Kids {
			if kid.holds(v) == (c.Op == Or) {
				return c.Op == Or
			}
		}
		return c.Op == And
	case Not:
		return !c.Kids[0].holds(v)
	}
	return c.holdsOf(has(v, c.Route))
}

// holdsOf says whether a condition of a route holds for what a value has there.
func (c Cond) holdsOf(x api.Value) bool {
	switch c.Op {
	case There:
		return isThere(x)
	case Equal:
		return isEqual(x, c.Value)
	case Unlike:
		return !isEqual(x, c.Value)
	case Has:
		return contains(x, c.Value) || x.Kind == api.String && c.Value.Kind == api.String && strings.Contains(x.Text, c.Value.Text)
	case In:
		return contains(c.Value, x)
	case Begins:
		return x.Kind == api.String && strings.HasPrefix(x.Text, c.Value.Text)
	}
	return c.holdsInOrder(x)
}

// holdsInOrder says whether a condition of an order holds.
func (c Cond) holdsInOrder(x api.Value) bool {
	if x.Kind != c.Value.Kind || x.Kind != api.Int && x.Kind != api.String && x.Kind != api.Day {
		return false
	}
	order := conf.Compare(x, c.Value)
	switch c.Op {
	case Below:
		return order < 0
	case AtMost:
		return order <= 0
	case Above:
		return order > 0
	}
	return order >= 0
}

func isThere(v api.Value) bool {
	switch v.Kind {
	case api.Nil:
		return false
	case api.Bool:
		return v.Bool
	case api.Int:
		return v.Int != 0
	case api.String, api.Safe:
		return v.Text != ""
	case api.List, api.Table:
		return len(v.Items) > 0
	}
	return true
}

func isEqual(a, b api.Value) bool { return conf.Compare(a, b) == 0 }

// contains says whether a value is a List with an item that is equal to another value.
func contains(l, v api.Value) bool {
	for i := 0; l.Kind == api.List && i < len(l.Items); i++ {
		if isEqual(l.Items[i], v) {
			return true
		}
	}
	return false
}
