// Package num: numbers as bytes, the most significant one first, as the protocols have them.
package num

// Append appends the n lower bytes of v.
func Append(b []byte, n int, v int) []byte {
	for i := n - 1; i >= 0; i-- {
		b = append(b, byte(v>>(8*i)))
	}
	return b
}

// Read tells the number that all of b is.
func Read(b []byte) int {
	v := 0
	for _, x := range b {
		v = v<<8 | int(x)
	}
	return v
}
