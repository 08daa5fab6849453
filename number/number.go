// Package number takes numbers out of bytes and puts them in, the most
// significant byte first: what packet, nego and lcp have in common.
package number

// Of is the number that b encodes, which has four bytes at most.
func Of(b []byte) int {
	n := 0
	for _, x := range b {
		n = n<<8 | int(x)
	}
	return n
}

// Bytes is n in size bytes, or as much of its end as they hold.
func Bytes(n, size int) []byte {
	b := make([]byte, max(size, 0))
	for i := range b {
		b[len(b)-1-i] = byte(n >> (8 * i))
	}
	return b
}
