package asset

// digits16 are those of base 16.
const digits16 = "0123456789abcdef"

// endZeros is how many bytes 0 follow the length of a body, so that all of it bears on every digit.
const endZeros = 16

// state is that of a digest, as far as bytes have been taken.
type state [4]uint32

// Digest has 32 digits of base 16, which are others for another body.
func Digest(body string) string {
	d := state{1732584193, 4023233417, 2562383102, 271733878}
	for i := range len(body) {
		d.take(body[i])
	}
	return d.end(len(body)).String()
}

func (d *state) take(b byte) {
	d[0] = (d[0] + uint32(b)) * 16777619
	d[1] = (d[1] + d[0]) * 2654435761
	d[2] = (d[2] ^ d[1]) + 374761393
	d[3] += 9*d[2] + uint32(b)
	first := d[0]
	copy(d[:], d[1:])
	d[3] = first
}

// end is the state after a body of so many bytes.
func (d state) end(length int) state {
	for range 4 {
		d.take(byte(length))
		length >>= 8
	}
	for range endZeros {
		d.take(0)
	}
	return d
}

func (d state) String() string {
	var out []byte
	for _, n := range d {
		for shift := 28; shift >= 0; shift -= 4 {
			out = append(out, digits16[n>>shift&15])
		}
	}
	return string(out)
}
