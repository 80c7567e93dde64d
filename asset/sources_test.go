package asset_test

import (
	"math"
	"testing"

	"masthead/api"
	"masthead/asset"
)

// P7.15: addresses of an image in several widths.
func TestSourceSet(t *testing.T) {
	for _, c := range []struct {
		address string
		width   int
		widths  []int
		want    string
	}{
		{"/a", 1, nil, "/a?w=1 1w"},
		{"/a", 500, []int{200, 300}, "/a?w=200 200w, /a?w=300 300w, /a?w=500 500w"},
		{"/a", 500, []int{200, 500}, "/a?w=200 200w, /a?w=500 500w"},
		{"/a", 500, []int{200, 500, 501}, "/a?w=200 200w, /a?w=500 500w"},
		{"/a", 500, []int{200, 499, 501, 10_000}, "/a?w=200 200w, /a?w=499 499w, /a?w=500 500w"},
		{"/a", 500, []int{501}, "/a?w=500 500w"},
		{"/a", 500, []int{500}, "/a?w=500 500w"},
		{"/a.b/c-d_9.image", 10_000, []int{1, 10_000}, "/a.b/c-d_9.image?w=1 1w, /a.b/c-d_9.image?w=10000 10000w"},
		{"/" + widePath(200), 7, []int{7}, "/" + widePath(200) + "?w=7 7w"},
		{"/a", 12, []int{1, 2, 3, 4, 5, 6, 7, 8, 9, 10, 11, 12}, "/a?w=1 1w, /a?w=2 2w, /a?w=3 3w, /a?w=4 4w, /a?w=5 5w, /a?w=6 6w, /a?w=7 7w, /a?w=8 8w, /a?w=9 9w, /a?w=10 10w, /a?w=11 11w, /a?w=12 12w"},
	} {
		got, e := asset.SourceSet(c.address, c.width, c.widths)
		expect(t, show([]any{c.address, c.width, c.widths}), got, e, c.want, api.OK)
	}
}

// P7.15: addresses and widths that cannot be.
func TestSourceSetErrors(t *testing.T) {
	many := []int{1, 2, 3, 4, 5, 6, 7, 8, 9, 10, 11, 12, 13}
	for _, c := range []struct {
		address string
		width   int
		widths  []int
		e       api.Errno
	}{
		{"", 1, nil, api.ErrPath},
		{"a", 1, nil, api.ErrPath},
		{"/", 1, nil, api.ErrPath},
		{"//a", 1, nil, api.ErrPath},
		{"/a/", 1, nil, api.ErrPath},
		{"/a b", 1, nil, api.ErrPath},
		{"/A", 1, nil, api.ErrPath},
		{"/..", 1, nil, api.ErrPath},
		{"/a?w=1", 1, nil, api.ErrPath},
		{"/" + wide(41), 1, nil, api.ErrPath},
		{"/" + widePath(201), 1, nil, api.ErrPath},
		{"", 0, many, api.ErrPath},
		{"/a", 0, many, api.ErrLarge},
		{"/a", 1, many, api.ErrLarge},
		{"/a", 1, make([]int, 13), api.ErrLarge},
		{"/a", 0, nil, api.ErrRange},
		{"/a", -1, nil, api.ErrRange},
		{"/a", 10_001, nil, api.ErrRange},
		{"/a", math.MaxInt, nil, api.ErrRange},
		{"/a", 1, []int{0}, api.ErrRange},
		{"/a", 1, []int{-5, 1}, api.ErrRange},
		{"/a", 1, []int{1, 10_001}, api.ErrRange},
		{"/a", 1, []int{2, 1, 10_001}, api.ErrRange},
		{"/a", 1, []int{math.MinInt}, api.ErrRange},
		{"/a", 0, []int{2, 1}, api.ErrRange},
		{"/a", 1, []int{2, 1}, api.ErrOrder},
		{"/a", 1, []int{1, 1}, api.ErrOrder},
		{"/a", 9, []int{1, 2, 3, 3}, api.ErrOrder},
		{"/a", 9, []int{1, 5, 4}, api.ErrOrder},
	} {
		got, e := asset.SourceSet(c.address, c.width, c.widths)
		expect(t, show([]any{c.address, c.width, c.widths}), got, e, "", c.e)
	}
}
