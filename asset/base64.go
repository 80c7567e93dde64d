package asset

import (
	"strings"

	"masthead/api"
)

// digits64 are those of base 64, which can all be in an address.
const digits64 = "ABCDEFGHIJKLMNOPQRSTUVWXYZabcdefghijklmnopqrstuvwxyz0123456789-_"

// Encode64 writes bytes as digits of base 64.
func Encode64(s string) (string, api.Errno) {
	if len(s) > api.MaxBody {
		return "", api.ErrLarge
	}
	var out []byte
	bits, many := 0, 0 // those that are still to be written
	for i := range len(s) {
		bits, many = bits<<8|int(s[i]), many+8
		for many >= 6 {
			many -= 6
			out = append(out, digits64[bits>>many])
			bits &= 1<<many - 1
		}
	}
	if many > 0 {
		out = append(out, digits64[bits<<(6-many)])
	}
	return string(out), api.OK
}

// Decode64 reads what Encode64 writes.
func Decode64(s string) (string, api.Errno) {
	if len(s) > api.MaxOut {
		return "", api.ErrLarge
	}
	if len(s)%4 == 1 {
		return "", api.ErrSyntax
	}
	var out []byte
	bits, many := 0, 0 // those that no byte has yet
	for i := range len(s) {
		digit := strings.IndexByte(digits64, s[i])
		if digit < 0 {
			return "", api.ErrSyntax
		}
		bits, many = bits<<6|digit, many+6
		if many >= 8 {
			many -= 8
			out = append(out, byte(bits>>many))
			bits &= 1<<many - 1
		}
	}
	if bits != 0 {
		return "", api.ErrSyntax
	}
	return string(out), api.OK
}
