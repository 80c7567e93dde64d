package list

import (
	"slices"
	"strconv"

	"masthead/api"
	"masthead/tree"
)

// Pager divides items into parts of a size.
func Pager(many, size int) ([]Part, api.Errno) {
	if many < 0 || many > MaxList || size < 1 || size > MaxList {
		return nil, api.ErrRange
	}
	l := []Part{{Number: 1, To: min(size, many)}}
	for from := size; from < many; from += size {
		l = append(l, Part{Number: len(l) + 1, From: from, To: min(from+size, many)})
	}
	return l, api.OK
}

// PartAddress is the address of a part.
func PartAddress(base string, number int) (string, api.Errno) {
	if e := tree.CheckAddress(base); e != api.OK {
		return "", e
	}
	if number < 1 || number > MaxList {
		return "", api.ErrRange
	}
	if number == 1 {
		return base, api.OK
	}
	return checkedAddress(base + "page/" + strconv.Itoa(number) + "/")
}

// Window is the parts to which a list of links leads, with a 0 where some are left out.
func Window(parts, number, around int) ([]int, api.Errno) {
	if parts < 1 || parts > MaxList || number < 1 || number > parts || around < 0 || around > MaxList {
		return nil, api.ErrRange
	}
	l := []int{1}
	for n := 2; n <= parts; n++ {
		if n < parts && (n < number-around || n > number+around) {
			continue
		}
		if l[len(l)-1] != n-1 {
			l = append(l, 0)
		}
		l = append(l, n)
	}
	return l, api.OK
}

// Near is the items before and after an item, or -1.
func Near(order []int, item int) (before, after int, e api.Errno) {
	if len(order) > MaxList {
		return 0, 0, api.ErrLarge
	}
	if len(choose(order, seen{}.isNew)) < len(order) {
		return 0, 0, api.ErrTwice
	}
	if slices.ContainsFunc(order, func(n int) bool { return n < 0 }) {
		return 0, 0, api.ErrRange
	}
	i := slices.Index(order, item)
	if i < 0 {
		return 0, 0, api.ErrNone
	}
	before, after = -1, -1
	if i > 0 {
		before = order[i-1]
	}
	if i < len(order)-1 {
		after = order[i+1]
	}
	return before, after, api.OK
}
