package asset

import "masthead/api"

// Plan says how an image with these sides becomes one as wanted.
func Plan(width, height int, want Want) (Cut, api.Errno) {
	if !isSide(width) || !isSide(height) {
		return Cut{}, api.ErrRange
	}
	if e := checkWant(want); e != api.OK {
		return Cut{}, e
	}
	w, h := min(want.Width, width), min(want.Height, height)
	byWidth, byHeight := scaled(height, w, width), scaled(width, h, height)
	switch {
	case want.Way == Fill:
		return filled(width, height, w, h), api.OK
	case want.Way == High || want.Way == Fit && byWidth > h:
		w = byHeight
	default:
		h = byWidth
	}
	return Cut{Width: width, Height: height, ToWidth: w, ToHeight: h}, api.OK
}

// checkWant says whether there is such a way, with the sides that it has.
func checkWant(want Want) api.Errno {
	if want.Way < Fit || want.Way > High {
		return api.ErrForm
	}
	hasWidth, hasHeight := want.Way != High, want.Way != Wide
	if hasWidth && !isSide(want.Width) || hasHeight && !isSide(want.Height) {
		return api.ErrRange
	}
	if !hasWidth && want.Width != 0 || !hasHeight && want.Height != 0 {
		return api.ErrForm
	}
	return api.OK
}

// scaled is a side as long as another one makes it, which becomes to where it was from.
func scaled(side, to, from int) int { return max(1, rounded(side*to, from)) }

// rounded is a quotient, rounded half up.
func rounded(n, by int) int { return (2*n + by) / (2 * by) }

// filled is the part in the middle that has the ratio of w and h.
func filled(width, height, w, h int) Cut {
	c := Cut{Width: width, Height: height, ToWidth: w, ToHeight: h}
	if width*h > height*w {
		c.Width = max(1, height*w/h)
	} else {
		c.Height = max(1, width*h/w)
	}
	c.X, c.Y = (width-c.Width)/2, (height-c.Height)/2
	return c
}
