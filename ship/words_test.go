package ship_test

import (
	"math/rand"
	"regexp"
	"strings"
	"testing"

	"masthead/api"
	"masthead/ship"
)

// P10.8: words.
func TestWords(t *testing.T) {
	for text, want := range map[string]string{
		"":                        "",
		" \n.,-":                  "",
		"a":                       "a",
		"The cat, the DOG":        "the cat the dog",
		"a1 1a 12":                "a1 1a 12",
		"x-y_z.w/v":               "x y z w v",
		"it's":                    "it s",
		"Café ÄB":                 "café Äb",
		"\x80\xff@":               "\x80\xff",
		"ABC-XYZ 09-`a{z":         "abc xyz 09 a z",
		"a\x7fb\x00c":             "a b c",
		"b a b":                   "b a b",
		"(end)":                   "end",
		wide(30) + " " + wide(31): wide(30),
		wide(31) + "a b":          "b",
		wide(15) + "." + wide(16): wide(15) + " " + wide(16),
		strings.Repeat("é", 15):   strings.Repeat("é", 15),
		strings.Repeat("é", 16):   "",
		"\u212a":                  "\u212a", // the sign of the unit of heat
	} {
		same(t, text, strings.Join(ship.Words(text), " "), want)
	}
	same(t, "many", len(ship.Words(strings.Repeat("a ", 1_000_000))), 1_000_000)
}

// P10.8: random strings.
func TestWordsRandom(t *testing.T) {
	r := rand.New(rand.NewSource(6))
	runs := regexp.MustCompile(`[a-zA-Z0-9]+`)
	pieces := append(words("a B cd 1 . - A9 "+wide(14)+" "+wide(15)), " ", "\n")
	for range 20_000 {
		text := mix(r, pieces, 9)
		var want []string
		for _, word := range runs.FindAllString(text, -1) {
			if len(word) <= 30 {
				want = append(want, strings.ToLower(word))
			}
		}
		same(t, text, ship.Words(text), want)
	}
}

// P10.8: stems: one rule alone, the first one that applies.
func TestStem(t *testing.T) {
	for word, want := range map[string]string{
		"passes": "pass", "sses": "ss", "assess": "assess", "asses": "ass",
		"ponies": "poni", "ties": "ti", "dies": "di", "series": "seri", "iesx": "iesx",
		"glass": "glass", "boss": "boss", "ssss": "ssss",
		"cats": "cat", "uses": "use", "goes": "goe", "this": "thi", "news": "new", "sings": "sing", "needs": "need", "feeds": "feed", "beds": "bed",
		"agreed": "agree", "feed": "fee", "need": "nee", "seed": "see",
		"running": "runn", "sing": "sing", "bring": "bring", "string": "str", "aaaing": "aaa", "inging": "ing", "eeding": "eed",
		"ended": "end", "sled": "sled", "asked": "ask", "aaaed": "aaa", "aaed": "aaed", "inged": "ing", "ssed": "ssed", "passed": "pass",
		"word": "word", "dogg": "dogg",
		"": "", "s": "s", "is": "is", "was": "was", "bed": "bed", "ies": "ies", "eed": "eed", "ing": "ing", "cat": "cat",
		"a1s": "a1s", "cat1s": "cat1s", "Cats": "Cats", "CATS": "CATS", "cat-s": "cat-s", "éats": "éats", "cats ": "cats ", " cats": " cats", "cats\n": "cats\n", "1990s": "1990s",
	} {
		same(t, word, ship.Stem(word), want)
	}
	same(t, "long", len(ship.Stem(wide(1_000_000)+"ing")), 1_000_000)
}

// P10.8: the first rule that applies, of all words with some endings.
func TestStemRandom(t *testing.T) {
	r := rand.New(rand.NewSource(7))
	rules := []struct {
		end   string
		least int
		less  int
	}{{"sses", 4, 2}, {"ies", 4, 2}, {"ss", 4, 0}, {"s", 4, 1}, {"eed", 4, 1}, {"ing", 6, 3}, {"ed", 5, 2}}
	letters := words("s e i n g d s e a ing")
	seen := map[string]int{}
	for range 100_000 {
		word := mix(r, letters, 8)
		want := word
		for _, rule := range rules {
			if len(word) >= rule.least && strings.HasSuffix(word, rule.end) {
				want = word[:len(word)-rule.less]
				seen[rule.end]++
				break
			}
		}
		expect(t, word, ship.Stem(word), api.OK, want, api.OK)
	}
	for _, rule := range rules {
		if seen[rule.end] < 50 {
			t.Errorf("%s: %d times", rule.end, seen[rule.end])
		}
	}
}
