package asset_test

import (
	"math"
	"math/big"
	"math/rand"
	"strings"
	"testing"

	"masthead/api"
	"masthead/asset"
)

// P7.12: images that are written and read.
func TestImageStrings(t *testing.T) {
	full := gray(asset.MaxSide, asset.MaxSide)
	for range asset.MaxSide * asset.MaxSide {
		full.Levels = append(full.Levels, asset.MaxLevel)
	}
	for _, c := range []struct {
		m    asset.Image
		want string
	}{
		{gray(1, 1, 0), "image 1 1\n0\n"},
		{gray(3, 2, 0, 15, 3, 4, 10, 6), "image 3 2\n0f3\n4a6\n"},
		{gray(1, 3, 9, 11, 14), "image 1 3\n9\nb\ne\n"},
		{gray(3, 1, 12, 13, 1), "image 3 1\ncd1\n"},
		{full, "image 64 64\n" + strings.Repeat(strings.Repeat("f", 64)+"\n", 64)},
	} {
		if e := asset.CheckImage(c.m); e != api.OK {
			t.Errorf("%s: error %d", short(show(c.m)), e)
		}
		s, e := asset.ImageString(c.m)
		expect(t, show(c.m), s, e, c.want, api.OK)
		m, e := asset.ReadImage(c.want)
		expect(t, c.want, m, e, c.m, api.OK)
	}
}

// P7.12: images that are none.
func TestImageErrors(t *testing.T) {
	for _, c := range []struct {
		m asset.Image
		e api.Errno
	}{
		{asset.Image{}, api.ErrRange},
		{gray(0, 1), api.ErrRange},
		{gray(1, 0), api.ErrRange},
		{gray(-1, -1, 1), api.ErrRange},
		{gray(65, 1, make([]int, 65)...), api.ErrRange},
		{gray(1, 65, make([]int, 65)...), api.ErrRange},
		{gray(math.MaxInt, math.MaxInt, 1), api.ErrRange},
		{gray(math.MinInt, 2), api.ErrRange},
		{gray(0, 1, 99), api.ErrRange},
		{gray(1, 1), api.ErrForm},
		{gray(1, 1, 1, 1), api.ErrForm},
		{gray(2, 2, 1, 1, 1), api.ErrForm},
		{gray(2, 2, 1, 1, 99, 1, 1), api.ErrForm},
		{gray(2, 1, 1, 16), api.ErrRange},
		{gray(2, 1, -1, 1), api.ErrRange},
		{gray(1, 1, math.MaxInt), api.ErrRange},
		{gray(1, 1, math.MinInt), api.ErrRange},
	} {
		if e := asset.CheckImage(c.m); e != c.e {
			t.Errorf("%+v: error %d, want %d", c.m, e, c.e)
		}
		s, e := asset.ImageString(c.m)
		expect(t, show(c.m), s, e, "", c.e)
		m, e := asset.Render(c.m, asset.Cut{})
		expect(t, show(c.m), m, e, asset.Image{}, c.e)
	}
}

// P7.12: what is no image.
func TestReadImageErrors(t *testing.T) {
	for _, c := range []struct {
		s string
		e api.Errno
	}{
		{"", api.ErrSyntax},
		{"\n", api.ErrSyntax},
		{"image", api.ErrSyntax},
		{"image 1 1", api.ErrSyntax},
		{"image 1 1\n", api.ErrSyntax},
		{"image 1 1\n0", api.ErrSyntax},
		{"image 1 1\n\n", api.ErrSyntax},
		{"image 1 1\n00\n", api.ErrSyntax},
		{"image 1 1\n0\n0\n", api.ErrSyntax},
		{"image 1 1\n0\n\n", api.ErrSyntax},
		{"image 1 1\n\n0", api.ErrSyntax},
		{"image 1 1\n00", api.ErrSyntax},
		{"image 2 2\n00000\n", api.ErrSyntax},
		{"image 2 1\n0\n", api.ErrSyntax},
		{"image 2 2\n00\n0\n0", api.ErrSyntax},
		{"image 2 2\n0\n000\n", api.ErrSyntax},
		{"image 2 1\n0 \n", api.ErrSyntax},
		{"image 3 1\n0 0\n", api.ErrSyntax},
		{"image 1 1\nF\n", api.ErrSyntax},
		{"image 1 1\ng\n", api.ErrSyntax},
		{"image 1 1\n-\n", api.ErrSyntax},
		{"image 1 1 \n0\n", api.ErrSyntax},
		{"image  1 1\n0\n", api.ErrSyntax},
		{"image 1  1\n0\n", api.ErrSyntax},
		{"image\t1 1\n0\n", api.ErrSyntax},
		{"image 1\t1\n0\n", api.ErrSyntax},
		{"image 1 1 1\n0\n", api.ErrSyntax},
		{"image 1\n0\n", api.ErrSyntax},
		{"image 11\n0\n", api.ErrSyntax},
		{" image 1 1\n0\n", api.ErrSyntax},
		{"Image 1 1\n0\n", api.ErrSyntax},
		{"images 1 1\n0\n", api.ErrSyntax},
		{"1 1\n0\n", api.ErrSyntax},
		{"image 01 1\n0\n", api.ErrSyntax},
		{"image 1 01\n0\n", api.ErrSyntax},
		{"image 00 0\n", api.ErrSyntax},
		{"image -1 1\n0\n", api.ErrSyntax},
		{"image 1 -1\n", api.ErrSyntax},
		{"image -0 0\n", api.ErrSyntax},
		{"image +1 1\n0\n", api.ErrSyntax},
		{"image 1_ 1\n0\n", api.ErrSyntax},
		{"image a 1\n0000000000\n", api.ErrSyntax},
		{"image 10000 0\n", api.ErrSyntax},
		{"image 0 10000\n" + strings.Repeat("\n", 10000), api.ErrSyntax},
		{"image 99999999999999999999 0\n", api.ErrSyntax},
		{"image 0 0\n", api.ErrRange},
		{"image 9999 0\n", api.ErrRange},
		{"image 0 1\n", api.ErrSyntax},
		{"image 0 1\n\n", api.ErrRange},
		{"image 0 3\n\n\n\n", api.ErrRange},
		{"image 0 9999\n" + strings.Repeat("\n", 9999), api.ErrRange},
		{"image 9999 9999\n0\n", api.ErrSyntax},
		{"image 65 1\n" + strings.Repeat("0", 65) + "\n", api.ErrRange},
		{"image 65 1\n" + strings.Repeat("0", 64) + "\n", api.ErrSyntax},
		{"image 1 65\n" + strings.Repeat("0\n", 65), api.ErrRange},
		{"image 9999 1\n" + strings.Repeat("0", 9999) + "\n", api.ErrRange},
		{"image 9999 1\n" + strings.Repeat("0", 9998) + "g\n", api.ErrSyntax},
		{strings.Repeat("0", api.MaxBody), api.ErrSyntax},
		{strings.Repeat("0", api.MaxBody+1), api.ErrLarge},
		{"image 1 1\n0\n" + strings.Repeat("\n", api.MaxBody), api.ErrLarge},
	} {
		m, e := asset.ReadImage(c.s)
		expect(t, c.s, m, e, asset.Image{}, c.e)
	}
}

// P7.12, Z10: what ImageString writes is read as it was, and nothing else is read.
func TestImagesAgain(t *testing.T) {
	r := rand.New(rand.NewSource(12))
	other := 0
	for range 3000 {
		m := anyGray(r)
		s, e := asset.ImageString(m)
		if e != api.OK {
			t.Fatal(m, e)
		}
		read, e := asset.ReadImage(s)
		expect(t, s, read, e, m, api.OK)
		changed := []byte(s)
		changed[r.Intn(min(len(s), 20))] = "0123af \n-"[r.Intn(9)]
		if read, e := asset.ReadImage(string(changed)); e == api.OK {
			other++
			again, e := asset.ImageString(read)
			expect(t, s, again, e, string(changed), api.OK)
		}
	}
	if other < 100 {
		t.Errorf("only %d can be read after a change", other)
	}
}

// P7.13: how images become others.
func TestPlan(t *testing.T) {
	for _, c := range []struct {
		width, height int
		want          asset.Want
		cut           asset.Cut
	}{
		{30, 20, asset.Want{Way: asset.Fit, Width: 12, Height: 12}, asset.Cut{Width: 30, Height: 20, ToWidth: 12, ToHeight: 8}},
		{20, 30, asset.Want{Way: asset.Fit, Width: 12, Height: 12}, asset.Cut{Width: 20, Height: 30, ToWidth: 8, ToHeight: 12}},
		{30, 20, asset.Want{Way: asset.Fit, Width: 12, Height: 7}, asset.Cut{Width: 30, Height: 20, ToWidth: 11, ToHeight: 7}},
		{30, 20, asset.Want{Way: asset.Fit, Width: 64, Height: 64}, asset.Cut{Width: 30, Height: 20, ToWidth: 30, ToHeight: 20}},
		{30, 20, asset.Want{Way: asset.Fit, Width: 64, Height: 10}, asset.Cut{Width: 30, Height: 20, ToWidth: 15, ToHeight: 10}},
		{64, 1, asset.Want{Way: asset.Fit, Width: 3, Height: 3}, asset.Cut{Width: 64, Height: 1, ToWidth: 3, ToHeight: 1}},
		{1, 64, asset.Want{Way: asset.Fit, Width: 3, Height: 3}, asset.Cut{Width: 1, Height: 64, ToWidth: 1, ToHeight: 3}},
		{30, 20, asset.Want{Way: asset.Wide, Width: 12}, asset.Cut{Width: 30, Height: 20, ToWidth: 12, ToHeight: 8}},
		{30, 20, asset.Want{Way: asset.Wide, Width: 7}, asset.Cut{Width: 30, Height: 20, ToWidth: 7, ToHeight: 5}},
		{4, 2, asset.Want{Way: asset.Wide, Width: 3}, asset.Cut{Width: 4, Height: 2, ToWidth: 3, ToHeight: 2}},
		{8, 3, asset.Want{Way: asset.Wide, Width: 4}, asset.Cut{Width: 8, Height: 3, ToWidth: 4, ToHeight: 2}},
		{30, 20, asset.Want{Way: asset.Wide, Width: 64}, asset.Cut{Width: 30, Height: 20, ToWidth: 30, ToHeight: 20}},
		{64, 1, asset.Want{Way: asset.Wide, Width: 1}, asset.Cut{Width: 64, Height: 1, ToWidth: 1, ToHeight: 1}},
		{30, 20, asset.Want{Way: asset.High, Height: 12}, asset.Cut{Width: 30, Height: 20, ToWidth: 18, ToHeight: 12}},
		{30, 20, asset.Want{Way: asset.High, Height: 7}, asset.Cut{Width: 30, Height: 20, ToWidth: 11, ToHeight: 7}},
		{30, 20, asset.Want{Way: asset.High, Height: 60}, asset.Cut{Width: 30, Height: 20, ToWidth: 30, ToHeight: 20}},
		{1, 64, asset.Want{Way: asset.High, Height: 1}, asset.Cut{Width: 1, Height: 64, ToWidth: 1, ToHeight: 1}},
		{30, 20, asset.Want{Way: asset.Fill, Width: 12, Height: 12}, asset.Cut{X: 5, Width: 20, Height: 20, ToWidth: 12, ToHeight: 12}},
		{20, 30, asset.Want{Way: asset.Fill, Width: 12, Height: 12}, asset.Cut{Y: 5, Width: 20, Height: 20, ToWidth: 12, ToHeight: 12}},
		{31, 20, asset.Want{Way: asset.Fill, Width: 12, Height: 12}, asset.Cut{X: 5, Width: 20, Height: 20, ToWidth: 12, ToHeight: 12}},
		{20, 33, asset.Want{Way: asset.Fill, Width: 12, Height: 12}, asset.Cut{Y: 6, Width: 20, Height: 20, ToWidth: 12, ToHeight: 12}},
		{30, 20, asset.Want{Way: asset.Fill, Width: 3, Height: 2}, asset.Cut{Width: 30, Height: 20, ToWidth: 3, ToHeight: 2}},
		{30, 20, asset.Want{Way: asset.Fill, Width: 64, Height: 64}, asset.Cut{Width: 30, Height: 20, ToWidth: 30, ToHeight: 20}},
		{30, 20, asset.Want{Way: asset.Fill, Width: 64, Height: 3}, asset.Cut{Y: 8, Width: 30, Height: 3, ToWidth: 30, ToHeight: 3}},
		{30, 20, asset.Want{Way: asset.Fill, Width: 7, Height: 3}, asset.Cut{Y: 4, Width: 30, Height: 12, ToWidth: 7, ToHeight: 3}},
		{30, 20, asset.Want{Way: asset.Fill, Width: 1, Height: 64}, asset.Cut{X: 14, Width: 1, Height: 20, ToWidth: 1, ToHeight: 20}},
		{64, 2, asset.Want{Way: asset.Fill, Width: 1, Height: 2}, asset.Cut{X: 31, Width: 1, Height: 2, ToWidth: 1, ToHeight: 2}},
		{1, 1, asset.Want{Way: asset.Fill, Width: 9, Height: 5}, asset.Cut{Width: 1, Height: 1, ToWidth: 1, ToHeight: 1}},
		{64, 64, asset.Want{Way: asset.Fill, Width: 64, Height: 64}, asset.Cut{Width: 64, Height: 64, ToWidth: 64, ToHeight: 64}},
	} {
		cut, e := asset.Plan(c.width, c.height, c.want)
		expect(t, show([]any{c.width, c.height, c.want}), cut, e, c.cut, api.OK)
	}
}

// P7.13: sides and ways that cannot be.
func TestPlanErrors(t *testing.T) {
	for _, c := range []struct {
		width, height int
		want          asset.Want
		e             api.Errno
	}{
		{0, 1, asset.Want{Way: asset.Fit, Width: 1, Height: 1}, api.ErrRange},
		{1, 0, asset.Want{Way: asset.Fit, Width: 1, Height: 1}, api.ErrRange},
		{65, 1, asset.Want{Way: asset.Wide, Width: 1}, api.ErrRange},
		{1, 65, asset.Want{Way: asset.Wide, Width: 1}, api.ErrRange},
		{-1, -1, asset.Want{}, api.ErrRange},
		{math.MaxInt, math.MinInt, asset.Want{}, api.ErrRange},
		{1, 1, asset.Want{}, api.ErrForm},
		{1, 1, asset.Want{Way: 5, Width: 1, Height: 1}, api.ErrForm},
		{1, 1, asset.Want{Way: -1}, api.ErrForm},
		{1, 1, asset.Want{Way: math.MaxInt, Width: 99}, api.ErrForm},
		{1, 1, asset.Want{Way: asset.Fit, Width: 1}, api.ErrRange},
		{1, 1, asset.Want{Way: asset.Fit, Height: 1}, api.ErrRange},
		{1, 1, asset.Want{Way: asset.Fit, Width: 65, Height: 1}, api.ErrRange},
		{1, 1, asset.Want{Way: asset.Fit, Width: 1, Height: 65}, api.ErrRange},
		{1, 1, asset.Want{Way: asset.Fit, Width: math.MaxInt, Height: math.MaxInt}, api.ErrRange},
		{1, 1, asset.Want{Way: asset.Fill, Width: 1}, api.ErrRange},
		{1, 1, asset.Want{Way: asset.Fill, Height: 1}, api.ErrRange},
		{1, 1, asset.Want{Way: asset.Fill, Width: -1, Height: 1}, api.ErrRange},
		{1, 1, asset.Want{Way: asset.Fill, Width: 1, Height: 65}, api.ErrRange},
		{1, 1, asset.Want{Way: asset.Wide}, api.ErrRange},
		{1, 1, asset.Want{Way: asset.Wide, Width: 65}, api.ErrRange},
		{1, 1, asset.Want{Way: asset.Wide, Height: 1}, api.ErrRange},
		{1, 1, asset.Want{Way: asset.Wide, Width: 65, Height: 1}, api.ErrRange},
		{1, 1, asset.Want{Way: asset.Wide, Width: 1, Height: 1}, api.ErrForm},
		{1, 1, asset.Want{Way: asset.Wide, Width: 1, Height: -1}, api.ErrForm},
		{1, 1, asset.Want{Way: asset.Wide, Width: 1, Height: 65}, api.ErrForm},
		{1, 1, asset.Want{Way: asset.High}, api.ErrRange},
		{1, 1, asset.Want{Way: asset.High, Height: math.MinInt}, api.ErrRange},
		{1, 1, asset.Want{Way: asset.High, Width: 1}, api.ErrRange},
		{1, 1, asset.Want{Way: asset.High, Width: 1, Height: 1}, api.ErrForm},
		{1, 1, asset.Want{Way: asset.High, Width: math.MaxInt, Height: 64}, api.ErrForm},
		{1, 1, asset.Want{Way: asset.Wide, Width: 64}, api.OK},
	} {
		cut, e := asset.Plan(c.width, c.height, c.want)
		if e != c.e || e != api.OK && cut != (asset.Cut{}) {
			t.Errorf("%d, %d, %+v: %+v, error %d; want %d", c.width, c.height, c.want, cut, e, c.e)
		}
	}
}

// ratio is a side as the other one makes it, as a number that is not rounded.
func ratio(side, to, from int) float64 { return float64(side) * float64(to) / float64(from) }

// P7.13: plans of all kinds keep the ratio, are as great as possible, and can be rendered.
func TestPlans(t *testing.T) {
	r := rand.New(rand.NewSource(13))
	half := func(x float64) int { return max(1, int(math.Floor(x+0.5))) }
	for range 100_000 {
		width, height := 1+r.Intn(64), 1+r.Intn(64)
		want := asset.Want{Way: 1 + r.Intn(4), Width: 1 + r.Intn(64), Height: 1 + r.Intn(64)}
		w, h := min(width, want.Width), min(height, want.Height)
		cut := asset.Cut{Width: width, Height: height}
		switch want.Way {
		case asset.Wide:
			want.Height = 0
			cut.ToWidth, cut.ToHeight = w, half(ratio(height, w, width))
		case asset.High:
			want.Width = 0
			cut.ToWidth, cut.ToHeight = half(ratio(width, h, height)), h
		case asset.Fit:
			cut.ToWidth, cut.ToHeight = w, half(ratio(height, w, width))
			if cut.ToHeight > h {
				cut.ToWidth, cut.ToHeight = half(ratio(width, h, height)), h
			}
		case asset.Fill:
			cut.ToWidth, cut.ToHeight = w, h
			if width*h > height*w {
				cut.Width = max(1, int(math.Floor(ratio(height, w, h))))
			} else {
				cut.Height = max(1, int(math.Floor(ratio(width, h, w))))
			}
			cut.X, cut.Y = (width-cut.Width)/2, (height-cut.Height)/2
		}
		got, e := asset.Plan(width, height, want)
		expect(t, show([]any{width, height, want}), got, e, cut, api.OK)
		if got.ToWidth > got.Width || got.ToHeight > got.Height || got.ToWidth > max(want.Width, 64*want.Height) || got.ToHeight > max(want.Height, 64*want.Width) {
			t.Fatalf("%d, %d, %+v: %+v", width, height, want, got)
		}
		if off := math.Abs(ratio(height, got.ToWidth, width) - float64(got.ToHeight)); want.Way != asset.Fill && off > 1 && math.Abs(ratio(width, got.ToHeight, height)-float64(got.ToWidth)) > 1 {
			t.Fatalf("%d, %d, %+v: %+v", width, height, want, got)
		}
	}
}

// P7.14: parts of images in other sides.
func TestRender(t *testing.T) {
	m := gray(3, 2, 0, 15, 3, 4, 10, 6)
	for _, c := range []struct {
		cut  asset.Cut
		want asset.Image
	}{
		{asset.Cut{Width: 3, Height: 2, ToWidth: 3, ToHeight: 2}, m},
		{asset.Cut{Width: 3, Height: 2, ToWidth: 2, ToHeight: 1}, gray(2, 1, 6, 7)},       // 5 1/2, 7 1/6
		{asset.Cut{Width: 3, Height: 2, ToWidth: 2, ToHeight: 2}, gray(2, 2, 5, 7, 6, 7)}, // 5, 7, 6, 7 1/3
		{asset.Cut{Width: 3, Height: 2, ToWidth: 1, ToHeight: 1}, gray(1, 1, 6)},          // 6 1/3
		{asset.Cut{Width: 3, Height: 2, ToWidth: 3, ToHeight: 1}, gray(3, 1, 2, 13, 5)},   // 2, 12 1/2, 4 1/2
		{asset.Cut{X: 1, Y: 1, Width: 2, Height: 1, ToWidth: 2, ToHeight: 1}, gray(2, 1, 10, 6)},
		{asset.Cut{X: 1, Width: 2, Height: 2, ToWidth: 1, ToHeight: 2}, gray(1, 2, 9, 8)},
		{asset.Cut{X: 2, Y: 1, Width: 1, Height: 1, ToWidth: 1, ToHeight: 1}, gray(1, 1, 6)},
	} {
		got, e := asset.Render(m, c.cut)
		expect(t, show(c.cut), got, e, c.want, api.OK)
	}
}

// P7.14: parts that are not within the image, and sides that are too great.
func TestRenderErrors(t *testing.T) {
	m := gray(3, 2, 0, 15, 3, 4, 10, 6)
	whole := asset.Cut{Width: 3, Height: 2, ToWidth: 3, ToHeight: 2}
	for i, change := range []func(c *asset.Cut){
		func(c *asset.Cut) { c.X = -1 },
		func(c *asset.Cut) { c.Y = -1 },
		func(c *asset.Cut) { c.X = 1 },
		func(c *asset.Cut) { c.Y = 1 },
		func(c *asset.Cut) { c.X, c.Width = -1, 4 },
		func(c *asset.Cut) { c.Width = 4 },
		func(c *asset.Cut) { c.Height = 3 },
		func(c *asset.Cut) { c.Width = 0 },
		func(c *asset.Cut) { c.Height = 0 },
		func(c *asset.Cut) { c.Width, c.ToWidth = -1, -1 },
		func(c *asset.Cut) { c.Height, c.ToHeight = -1, -2 },
		func(c *asset.Cut) { c.ToWidth = 4 },
		func(c *asset.Cut) { c.ToHeight = 3 },
		func(c *asset.Cut) { c.Width = 2 },
		func(c *asset.Cut) { c.Height = 1 },
		func(c *asset.Cut) { c.ToWidth = 0 },
		func(c *asset.Cut) { c.ToHeight = 0 },
		func(c *asset.Cut) { c.ToWidth = -1 },
		func(c *asset.Cut) { c.X, c.Width, c.ToWidth = 3, 1, 1 },
		func(c *asset.Cut) { c.X, c.Width, c.ToWidth = 3, 0, 0 },
		func(c *asset.Cut) { c.X = math.MaxInt },
		func(c *asset.Cut) { c.Y = math.MaxInt },
		func(c *asset.Cut) { c.X = math.MinInt },
		func(c *asset.Cut) { c.Width = math.MaxInt },
		func(c *asset.Cut) { c.X, c.Width = math.MaxInt, math.MaxInt },
		func(c *asset.Cut) { c.X, c.Width = math.MinInt, math.MinInt },
		func(c *asset.Cut) { c.X, c.Width = 2, math.MaxInt },
		func(c *asset.Cut) { c.Height, c.ToHeight = math.MaxInt, math.MaxInt },
		func(c *asset.Cut) { *c = asset.Cut{} },
	} {
		c := whole
		change(&c)
		got, e := asset.Render(m, c)
		expect(t, show([]any{i, c}), got, e, asset.Image{}, api.ErrRange)
	}
}

// mean is the mean of the levels of the rectangle of a new point, with fractions.
func mean(m asset.Image, c asset.Cut, x, y int) int {
	covered := func(at, side, to, i int) *big.Rat {
		from, end := big.NewRat(int64(at*side), int64(to)), big.NewRat(int64((at+1)*side), int64(to))
		if begin := big.NewRat(int64(i), 1); from.Cmp(begin) < 0 {
			from = begin
		}
		if last := big.NewRat(int64(i+1), 1); end.Cmp(last) > 0 {
			end = last
		}
		if share := new(big.Rat).Sub(end, from); share.Sign() > 0 {
			return share
		}
		return new(big.Rat)
	}
	sum, area := new(big.Rat), new(big.Rat)
	for j := range c.Height {
		for i := range c.Width {
			part := covered(x, c.Width, c.ToWidth, i)
			part.Mul(part, covered(y, c.Height, c.ToHeight, j))
			area.Add(area, part)
			sum.Add(sum, part.Mul(part, big.NewRat(int64(m.Levels[(c.Y+j)*m.Width+c.X+i]), 1)))
		}
	}
	sum.Quo(sum, area)
	sum.Add(sum, big.NewRat(1, 2))
	return int(new(big.Int).Quo(sum.Num(), sum.Denom()).Int64())
}

// P7.14: levels are means by area, exact.
func TestRenderRandom(t *testing.T) {
	r := rand.New(rand.NewSource(14))
	for range 400 {
		m := anyGray(r)
		c := asset.Cut{X: r.Intn(m.Width), Y: r.Intn(m.Height)}
		c.Width, c.Height = 1+r.Intn(min(12, m.Width-c.X)), 1+r.Intn(min(12, m.Height-c.Y))
		c.ToWidth, c.ToHeight = 1+r.Intn(c.Width), 1+r.Intn(c.Height)
		want := gray(c.ToWidth, c.ToHeight)
		for y := range c.ToHeight {
			for x := range c.ToWidth {
				want.Levels = append(want.Levels, mean(m, c, x, y))
			}
		}
		got, e := asset.Render(m, c)
		expect(t, show([]any{m, c}), got, e, want, api.OK)
	}
}

// P7.13, P7.14: what is planned can be rendered, and is an image.
func TestRenderPlans(t *testing.T) {
	r := rand.New(rand.NewSource(15))
	for range 2000 {
		m := anyGray(r)
		want := asset.Want{Way: 1 + r.Intn(4), Width: 1 + r.Intn(64), Height: 1 + r.Intn(64)}
		if want.Way == asset.Wide {
			want.Height = 0
		}
		if want.Way == asset.High {
			want.Width = 0
		}
		c, e := asset.Plan(m.Width, m.Height, want)
		if e != api.OK {
			t.Fatal(m.Width, m.Height, want, e)
		}
		got, e := asset.Render(m, c)
		if e != api.OK || asset.CheckImage(got) != api.OK || got.Width != c.ToWidth || got.Height != c.ToHeight {
			t.Fatal(m.Width, m.Height, want, c, e)
		}
	}
}
