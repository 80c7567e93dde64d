package asset

import (
	"iter"

	"masthead/api"
)

// Render is a part of an image, in its new sides.
func Render(m Image, c Cut) (Image, api.Errno) {
	if e := CheckImage(m); e != api.OK {
		return Image{}, e
	}
	if !isWithin(c.X, c.Width, c.ToWidth, m.Width) || !isWithin(c.Y, c.Height, c.ToHeight, m.Height) {
		return Image{}, api.ErrRange
	}
	out := Image{Width: c.ToWidth, Height: c.ToHeight}
	for y := range c.ToHeight {
		for x := range c.ToWidth {
			out.Levels = append(out.Levels, meanLevel(m, c, x, y))
		}
	}
	return out, api.OK
}

// isWithin says whether a side of a part lies within that of the image, and can become the new one.
func isWithin(from, side, to, of int) bool {
	return to >= 1 && to <= side && side <= of && from >= 0 && from <= of-side
}

// meanLevel is the level of a new point.
func meanLevel(m Image, c Cut, x, y int) int {
	sum := 0
	for j, high := range shares(y, c.Height, c.ToHeight) {
		for i, wide := range shares(x, c.Width, c.ToWidth) {
			sum += m.Levels[(c.Y+j)*m.Width+c.X+i] * high * wide
		}
	}
	return rounded(sum, c.Height*c.Width)
}

// shares goes through the points that a new one covers along a side, with how much of each. A point is counted as so many as there are new ones: so all shares are whole, and those of a new point are the side in all.
func shares(at, side, to int) iter.Seq2[int, int] {
	return func(yield func(point, share int) bool) {
		from, end := at*side, (at+1)*side
		for i := from / to; i*to < end; i++ {
			if !yield(i, min(end, (i+1)*to)-max(from, i*to)) {
				return
			}
		}
	}
}
