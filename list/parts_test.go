package list_test

import (
	"math"
	"strings"
	"testing"

	"masthead/api"
	"masthead/list"
)

// P4.11: parts of a size.
func TestPager(t *testing.T) {
	for _, c := range []struct {
		many, size int
		want       []list.Part
		e          api.Errno
	}{
		{5, 2, []list.Part{{1, 0, 2}, {2, 2, 4}, {3, 4, 5}}, api.OK}, {4, 2, []list.Part{{1, 0, 2}, {2, 2, 4}}, api.OK}, {1, 2, []list.Part{{1, 0, 1}}, api.OK}, {2, 2, []list.Part{{1, 0, 2}}, api.OK}, {0, 2, []list.Part{{1, 0, 0}}, api.OK}, {0, 1, []list.Part{{1, 0, 0}}, api.OK}, {2, 1, []list.Part{{1, 0, 1}, {2, 1, 2}}, api.OK},
		{list.MaxList, list.MaxList, []list.Part{{1, 0, list.MaxList}}, api.OK}, {list.MaxList, list.MaxList - 1, []list.Part{{1, 0, list.MaxList - 1}, {2, list.MaxList - 1, list.MaxList}}, api.OK},
		{-1, 1, nil, api.ErrRange}, {list.MaxList + 1, 1, nil, api.ErrRange}, {math.MaxInt, 1, nil, api.ErrRange}, {1, 0, nil, api.ErrRange}, {1, -1, nil, api.ErrRange}, {1, list.MaxList + 1, nil, api.ErrRange}, {1, math.MaxInt, nil, api.ErrRange}, {0, math.MinInt, nil, api.ErrRange},
	} {
		got, e := list.Pager(c.many, c.size)
		if c.want == nil {
			c.want = []list.Part{}
		}
		expect(t, show([]int{c.many, c.size}), got, e, c.want, c.e)
	}
	got, e := list.Pager(list.MaxList, 1)
	if e != api.OK || len(got) != list.MaxList || got[list.MaxList-1] != (list.Part{Number: list.MaxList, From: list.MaxList - 1, To: list.MaxList}) {
		t.Errorf("as many as can be: %d, error %d", len(got), e)
	}
}

// P4.11: addresses of parts.
func TestPartAddress(t *testing.T) {
	long := "/" + strings.Repeat(strings.Repeat("a", 39)+"/", 4) + strings.Repeat("b", 33) + "/" // 195 bytes
	for _, c := range []struct {
		base   string
		number int
		want   string
		e      api.Errno
	}{
		{"/a/", 1, "/a/", api.OK}, {"/a/", 2, "/a/page/2/", api.OK}, {"/", 1, "/", api.OK}, {"/", 12, "/page/12/", api.OK}, {"/a/", list.MaxList, "/a/page/2000/", api.OK}, {long, 1, long, api.OK}, {long, 9, long + "page/9/", api.OK},
		{"", 1, "", api.ErrPath}, {"/a", 1, "", api.ErrPath}, {"/A/", 0, "", api.ErrPath}, {"/a/", 0, "", api.ErrRange}, {"/a/", -1, "", api.ErrRange}, {"/a/", list.MaxList + 1, "", api.ErrRange}, {"/a/", math.MaxInt, "", api.ErrRange}, {long, 10, "", api.ErrPath}, {long, list.MaxList + 1, "", api.ErrRange},
	} {
		got, e := list.PartAddress(c.base, c.number)
		expect(t, c.base+" "+show(c.number), got, e, c.want, c.e)
	}
}

// P4.12: windows of parts.
func TestWindow(t *testing.T) {
	for _, c := range []struct {
		parts, number, around int
		want                  []int
		e                     api.Errno
	}{
		{9, 5, 1, []int{1, 0, 4, 5, 6, 0, 9}, api.OK}, {9, 3, 1, []int{1, 2, 3, 4, 0, 9}, api.OK}, {9, 4, 1, []int{1, 0, 3, 4, 5, 0, 9}, api.OK}, {9, 1, 1, []int{1, 2, 0, 9}, api.OK}, {9, 9, 0, []int{1, 0, 9}, api.OK}, {9, 8, 1, []int{1, 0, 7, 8, 9}, api.OK}, {3, 1, 0, []int{1, 0, 3}, api.OK}, {3, 2, 0, []int{1, 2, 3}, api.OK},
		{1, 1, 0, []int{1}, api.OK}, {1, 1, list.MaxList, []int{1}, api.OK}, {2, 1, 0, []int{1, 2}, api.OK}, {2, 2, 0, []int{1, 2}, api.OK}, {4, 2, list.MaxList, []int{1, 2, 3, 4}, api.OK}, {list.MaxList, list.MaxList, 0, []int{1, 0, list.MaxList}, api.OK}, {list.MaxList, 1000, 1, []int{1, 0, 999, 1000, 1001, 0, list.MaxList}, api.OK},
		{0, 1, 0, []int{}, api.ErrRange}, {-1, 1, 0, []int{}, api.ErrRange}, {list.MaxList + 1, 1, 0, []int{}, api.ErrRange}, {math.MaxInt, 1, 0, []int{}, api.ErrRange}, {3, 0, 0, []int{}, api.ErrRange}, {3, 4, 0, []int{}, api.ErrRange}, {3, math.MinInt, 0, []int{}, api.ErrRange}, {3, 1, -1, []int{}, api.ErrRange}, {3, 1, list.MaxList + 1, []int{}, api.ErrRange}, {3, 1, math.MaxInt, []int{}, api.ErrRange},
	} {
		got, e := list.Window(c.parts, c.number, c.around)
		expect(t, show([]int{c.parts, c.number, c.around}), got, e, c.want, c.e)
	}
}

// P4.13: what is near in an order.
func TestNear(t *testing.T) {
	full := make([]int, list.MaxList+1)
	for i := range full {
		full[i] = i
	}
	for name, c := range map[string]struct {
		order []int
		item  int
		want  []int
		e     api.Errno
	}{
		"between":              {[]int{4, 0, 7}, 0, []int{4, 7}, api.OK},
		"the first one":        {[]int{4, 0, 7}, 4, []int{-1, 0}, api.OK},
		"the last one":         {[]int{4, 0, 7}, 7, []int{0, -1}, api.OK},
		"the only one":         {[]int{4}, 4, []int{-1, -1}, api.OK},
		"great ones":           {[]int{math.MaxInt, 0}, 0, []int{math.MaxInt, -1}, api.OK},
		"as many as can be":    {full[:list.MaxList], 1000, []int{999, 1001}, api.OK},
		"one more":             {full, 1000, []int{0, 0}, api.ErrLarge},
		"large before twice":   {make([]int, list.MaxList+1), 0, []int{0, 0}, api.ErrLarge},
		"one twice":            {[]int{4, 0, 4}, 0, []int{0, 0}, api.ErrTwice},
		"twice before a range": {[]int{-1, 3, 3}, 7, []int{0, 0}, api.ErrTwice},
		"-1 twice":             {[]int{-1, -1}, 7, []int{0, 0}, api.ErrTwice},
		"below 0":              {[]int{1, -1}, 7, []int{0, 0}, api.ErrRange},
		"the least":            {[]int{math.MinInt}, math.MinInt, []int{0, 0}, api.ErrRange},
		"none":                 {[]int{1, 2}, 3, []int{0, 0}, api.ErrNone},
		"none below 0":         {[]int{1, 2}, -1, []int{0, 0}, api.ErrNone},
		"nothing":              {nil, 0, []int{0, 0}, api.ErrNone},
	} {
		before, after, e := list.Near(c.order, c.item)
		expect(t, name, []int{before, after}, e, c.want, c.e)
	}
}
