package lang_test

import (
	"cmp"
	"fmt"
	"math/rand"
	"slices"
	"strings"
	"testing"

	"masthead/api"
	"masthead/lang"
)

func lettered(letters ...string) lang.Language { return lang.Language{Name: "x", Letters: letters} }

// P8.11: Collate.
func TestCollate(t *testing.T) {
	czech := lettered("a", "á", "c", "ch", "chh", "h", "č")
	for _, x := range []struct {
		l    lang.Language
		a, b string
		want int
	}{
		{czech, "", "", 0}, {czech, "", "a", -1}, {czech, "a", "a", 0}, {czech, "a", "á", -1}, {czech, "á", "c", -1}, {czech, "c", "ch", -1}, {czech, "ch", "cz", 1}, {czech, "ch", "h", -1}, {czech, "chh", "ch", 1}, {czech, "chhh", "chhc", 1}, {czech, "chh", "chz", 1}, {czech, "h", "č", -1}, {czech, "aa", "a", 1}, {czech, "ac", "ach", -1}, {czech, "cha", "chh", -1}, {czech, "hc", "hch", -1},
		{czech, "č", "b", -1}, {czech, "č", "\x00", -1}, {czech, "\xff", "\x00", 1}, {czech, "b", "d", -1}, {czech, "A", "b", -1}, {czech, "ab", "aa", 1}, {czech, "a\xc4", "ač", 1}, {czech, "\xc4", "\xc4\x8d", 1}, {czech, "z", "č", 1},
		{lettered(), "a", "b", -1}, {lettered(), "B", "a", -1}, {lettered(), "ä", "z", 1}, {lettered(), "ab", "ab", 0}, {lettered(), "ab", "abc", -1}, {lettered(), "\xff", "\xfe\xff", 1},
		{lettered("z", "b", "a"), "z", "a", -1}, {lettered("z", "b", "a"), "a", "b", 1}, {lettered("z", "b", "a"), "az", "ab", -1}, {lettered("aaaa", "aa"), "aaaaaa", "aaaaaaa", -1}, {lettered("aaaa", "aa"), "aaaa", "aa", -1}, {lettered("aaaa", "aa"), "aaaab", "aaab", -1}, {lettered("ab", "bc"), "abc", "bcx", -1}, {lettered("\x00", "é\xff"), "é\xff", "\x00", 1}, {lettered("\x00", "é\xff"), "é\xff", "é", -1},
	} {
		got, e := lang.Collate(x.l, x.a, x.b)
		expect(t, x.a+" "+x.b, got, e, x.want, api.OK)
		got, e = lang.Collate(x.l, x.b, x.a)
		expect(t, x.b+" "+x.a, got, e, -x.want, api.OK)
	}
}

// P8.11: SortIn and Initials.
func TestOrders(t *testing.T) {
	l := lettered("a", "ä", "b", "c", "ch", "d")
	for _, x := range []struct {
		words    []string
		sorted   []int
		initials []lang.Initial
	}{
		{nil, nil, nil},
		{[]string{""}, []int{0}, []lang.Initial{{Letter: "", Items: []int{0}}}},
		{[]string{"b", "a", "b", "a"}, []int{1, 3, 0, 2}, []lang.Initial{{Letter: "a", Items: []int{1, 3}}, {Letter: "b", Items: []int{0, 2}}}},
		{[]string{"cz", "ch", "äx", "az", "", "b", "x", "Z", "ca", ""}, []int{4, 9, 3, 2, 5, 8, 0, 1, 7, 6}, []lang.Initial{{Letter: "", Items: []int{4, 9}}, {Letter: "a", Items: []int{3}}, {Letter: "ä", Items: []int{2}}, {Letter: "b", Items: []int{5}}, {Letter: "c", Items: []int{8, 0}}, {Letter: "ch", Items: []int{1}}, {Letter: "Z", Items: []int{7}}, {Letter: "x", Items: []int{6}}}},
		{[]string{"öb", "öa", "ü", "\xc3"}, []int{3, 1, 0, 2}, []lang.Initial{{Letter: "\xc3", Items: []int{3, 1, 0, 2}}}},
	} {
		sorted, e := lang.SortIn(l, x.words)
		expect(t, show(x.words), sorted, e, x.sorted, api.OK)
		initials, e := lang.Initials(l, x.words)
		expect(t, show(x.words), initials, e, x.initials, api.OK)
	}
}

// P8.11: how long words can be, and how many.
func TestOrderErrors(t *testing.T) {
	l := lettered("a")
	long, longer := wide(lang.MaxMessage), wide(lang.MaxMessage+1)
	many := make([]string, lang.MaxWords)
	for _, x := range []struct {
		words []string
		e     api.Errno
	}{
		{[]string{long, long}, api.OK}, {[]string{longer, ""}, api.ErrLarge}, {[]string{"", longer}, api.ErrLarge}, {[]string{longer, longer}, api.ErrLarge}, {many, api.OK}, {append(many, ""), api.ErrLarge}, {append(many[1:], longer), api.ErrLarge},
	} {
		sorted, e := lang.SortIn(l, x.words)
		if e != x.e || e == api.OK && len(sorted) != len(x.words) || e != api.OK && len(sorted) != 0 {
			t.Errorf("%d words: error %d", len(x.words), e)
		}
		initials, e := lang.Initials(l, x.words)
		if e != x.e || (e == api.OK) != (len(initials) == 1) {
			t.Errorf("%d words: %d initials, error %d", len(x.words), len(initials), e)
		}
		if len(x.words) == 2 {
			n, e := lang.Collate(l, x.words[0], x.words[1])
			expect(t, "Collate", n, e, 0, x.e)
		}
	}
}

// unitsOf is the units of a word, each as a string that is ordered as it is.
func unitsOf(letters []string, word string) []string {
	var l []string
	for word != "" {
		size, key := 1, fmt.Sprintf("byte %03d", word[0])
		for i, letter := range letters {
			if strings.HasPrefix(word, letter) && (len(letter) > size || len(letter) == size && key > "a") {
				size, key = len(letter), fmt.Sprintf("Letter %03d", i)
			}
		}
		l, word = append(l, key), word[size:]
	}
	return l
}

// P8.11: random words and Letters.
func TestRandomOrders(t *testing.T) {
	r := rand.New(rand.NewSource(12))
	some := func(most int) string {
		s := ""
		for range r.Intn(most + 1) {
			i := r.Intn(4)
			s += "abc\xc3"[i : i+1]
		}
		return s
	}
	for range 3000 {
		var letters, words []string
		for range r.Intn(12) {
			if s := some(4); s != "" && !slices.Contains(letters, s) {
				letters = append(letters, s)
			}
		}
		for range r.Intn(12) {
			words = append(words, some(6))
		}
		l := lettered(letters...)
		want := make([]int, len(words))
		for i := range want {
			want[i] = i
		}
		slices.SortStableFunc(want, func(i, j int) int { return slices.Compare(unitsOf(letters, words[i]), unitsOf(letters, words[j])) })
		got, e := lang.SortIn(l, words)
		expect(t, fmt.Sprintf("%q %q", letters, words), got, e, want, api.OK)
		initials, e := lang.Initials(l, words)
		var all []int
		for i, x := range initials {
			all = append(all, x.Items...)
			for _, j := range x.Items {
				first := append(unitsOf(letters, words[j]), "")[0]
				if first != append(unitsOf(letters, x.Letter), "")[0] || !strings.HasPrefix(words[j], x.Letter) || i > 0 && x.Letter == initials[i-1].Letter {
					t.Errorf("%q %q: %+v", letters, words, initials)
				}
			}
		}
		expect(t, fmt.Sprintf("%q %q", letters, words), all, e, want, api.OK)
		if len(words) > 1 {
			n, e := lang.Collate(l, words[0], words[1])
			expect(t, fmt.Sprintf("%q %q", letters, words[:2]), n, e, cmp.Compare(0, slices.Compare(unitsOf(letters, words[1]), unitsOf(letters, words[0]))), api.OK)
		}
	}
}
