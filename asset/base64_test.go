package asset_test

import (
	"encoding/base64"
	"math/rand"
	"strings"
	"testing"

	"masthead/api"
	"masthead/asset"
)

// P7.6: digits as another program writes them.
func TestEncode64(t *testing.T) {
	r := rand.New(rand.NewSource(5))
	for i := range 2000 {
		b := make([]byte, i%50)
		r.Read(b)
		want := base64.RawURLEncoding.EncodeToString(b)
		got, e := asset.Encode64(string(b))
		expect(t, string(b), got, e, want, api.OK)
		back, e := asset.Decode64(want)
		expect(t, want, back, e, string(b), api.OK)
	}
	for s, want := range map[string]string{"": "", "a": "YQ", "ab": "YWI", "abc": "YWJj", "abcd": "YWJjZA", "\x00": "AA", "\xff\xff\xff": "____", "\xfb\xef\xbe": "----"} {
		got, e := asset.Encode64(s)
		expect(t, s, got, e, want, api.OK)
	}
}

// P7.6: what Decode64 refuses.
func TestDecode64Errors(t *testing.T) {
	for _, s := range []string{"A", "AAAAA", "A" + strings.Repeat("AAAA", 99), "YQ=", "YQ==", "YW J", "YWJ\n", "YW+j", "YW/j", "YWJ\xff", "Y.", "=", "\x00\x00", "AB", "AP", "AAB", "AAC", "AAAAAR", "AAAAAAF", "_x", "__9"} {
		got, e := asset.Decode64(s)
		expect(t, s, got, e, "", api.ErrSyntax)
	}
	r := rand.New(rand.NewSource(6))
	for range 20_000 {
		s := make([]byte, r.Intn(8))
		for i := range s {
			s[i] = "AAAAQgwEI8BZaz09-_+"[r.Intn(19)]
		}
		want, err := base64.RawURLEncoding.Strict().DecodeString(string(s))
		got, e := asset.Decode64(string(s))
		if (e == api.OK) != (err == nil) || err == nil && got != string(want) || err != nil && (got != "" || e != api.ErrSyntax) {
			t.Fatalf("%s: %q, error %d; want %q, %v", s, got, e, want, err)
		}
	}
}

// P7.6: how long strings can be.
func TestBase64Limits(t *testing.T) {
	s, e := asset.Encode64(wide(api.MaxBody))
	if e != api.OK || len(s) != (api.MaxBody*8+5)/6 {
		t.Errorf("%d digits, error %d", len(s), e)
	}
	s, e = asset.Encode64(wide(api.MaxBody + 1))
	expect(t, "too many bytes", s, e, "", api.ErrLarge)
	s, e = asset.Decode64(strings.Repeat("A", api.MaxOut))
	expect(t, "as many digits as can be", s, e, strings.Repeat("\x00", api.MaxOut/4*3), api.OK)
	for _, c := range []string{"A", "!"} {
		s, e = asset.Decode64(strings.Repeat(c, api.MaxOut+1))
		expect(t, "too many digits", s, e, "", api.ErrLarge)
	}
}
