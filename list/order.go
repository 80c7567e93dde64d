package list

import (
	"cmp"
	"math"
	"slices"

	"masthead/api"
	"masthead/conf"
)

// sortKey is a key with its column.
type sortKey struct {
	column
	down bool
}

func (k sortKey) compare(i, j int) int {
	a, b := k.column[i], k.column[j]
	switch {
	case a.Kind == api.Nil && b.Kind == api.Nil:
		return 0
	case a.Kind == api.Nil:
		return 1
	case b.Kind == api.Nil:
		return -1
	case k.down:
		return conf.Compare(b, a)
	}
	return conf.Compare(a, b)
}

type sortKeys []sortKey

// compare orders positions by the first key in which they differ.
func (l sortKeys) compare(i, j int) int {
	for _, k := range l {
		if c := k.compare(i, j); c != 0 {
			return c
		}
	}
	return cmp.Compare(i, j)
}

// Sort is all positions in the order of the keys.
func Sort(l []api.Value, keys []Key) ([]int, api.Errno) {
	if e := checkItems(l); e != api.OK {
		return nil, e
	}
	if len(keys) > MaxKeys {
		return nil, api.ErrLarge
	}
	var by sortKeys
	for _, key := range keys {
		c, e := columnAt(l, key.Route)
		if e != api.OK {
			return nil, e
		}
		by = append(by, sortKey{c, key.Down})
	}
	order := choose(l, all)
	slices.SortFunc(order, by.compare)
	return order, api.OK
}

// Groups are the positions of items that have equal values at a route.
func Groups(l []api.Value, route string) ([]Group, api.Errno) {
	c, e := columnOf(l, route)
	if e != api.OK {
		return nil, e
	}
	var groups []Group
	numbers := map[int]int{} // of the groups, by their first positions
	for i, first := range c.firsts() {
		if i == first {
			numbers[i] = len(groups)
			groups = append(groups, Group{Value: clone(c[i])})
		}
		g := &groups[numbers[first]]
		g.Items = append(g.Items, i)
	}
	return groups, api.OK
}

// Unique is the first positions of the values at a route.
func Unique(l []api.Value, route string) ([]int, api.Errno) {
	c, e := columnOf(l, route)
	if e != api.OK {
		return nil, e
	}
	return choose(c.firsts(), seen{}.isNew), api.OK
}

// Periods are the years and months of the items that have a day at a route, the latest first.
func Periods(l []api.Value, route string) ([]Period, api.Errno) {
	c, e := columnOf(l, route)
	if e != api.OK {
		return nil, e
	}
	dated := choose(c, isDay)
	slices.SortFunc(dated, sortKeys{{c, true}}.compare)
	var periods []Period
	inYear := 0 // the number of the year's period
	for _, i := range dated {
		year, month, _, _ := conf.Date(c[i].Int)
		if len(periods) == 0 || periods[inYear].Year != year {
			inYear = len(periods)
			periods = append(periods, Period{Year: year})
		}
		if periods[len(periods)-1].Month != month {
			periods = append(periods, Period{Year: year, Month: month})
		}
		last := len(periods) - 1
		periods[inYear].Items = append(periods[inYear].Items, i)
		periods[last].Items = append(periods[last].Items, i)
	}
	return periods, api.OK
}

func isDay(v api.Value) bool { return v.Kind == api.Day }

// Sum is the sum of the numbers at a route.
func Sum(l []api.Value, route string) (int, api.Errno) {
	c, e := columnOf(l, route)
	if e != api.OK {
		return 0, e
	}
	const half = 32
	var high, low int64 // apart, since the sum of some numbers can be too great where that of all is not
	for _, v := range c {
		if v.Kind == api.Int {
			high += int64(v.Int) >> half
			low += int64(v.Int) & math.MaxUint32
		}
	}
	high += low >> half
	if high < math.MinInt32 || high > math.MaxInt32 {
		return 0, api.ErrRange
	}
	return int(high<<half + low&math.MaxUint32), api.OK
}

// Extremes are the first positions of the least and the greatest value at a route.
func Extremes(l []api.Value, route string) (least, greatest int, e api.Errno) {
	c, e := columnOf(l, route)
	if e != api.OK {
		return 0, 0, e
	}
	with := choose(c, isSome)
	if len(with) == 0 {
		return 0, 0, api.ErrNone
	}
	return slices.MinFunc(with, c.compare), slices.MaxFunc(with, c.compare), api.OK
}

func isSome(v api.Value) bool { return v.Kind != api.Nil }
