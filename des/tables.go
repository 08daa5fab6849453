package des

// initialTable is the table IP.
func initialTable() []int {
	var table []int
	for _, first := range []int{58, 60, 62, 64, 57, 59, 61, 63} {
		for i := range 8 {
			table = append(table, first-8*i)
		}
	}
	return table
}

// inverse is the table that puts the bits back where they stood ahead of table,
// in which each number stands once.
func inverse(table []int) []int {
	back := make([]int, len(table))
	for i, p := range table {
		back[p-1] = i + 1
	}
	return back
}

// expansionTable is the table E. Its groups overlap, and reach over either end.
func expansionTable() []int {
	var table []int
	for k := range 8 {
		for i := range 6 {
			table = append(table, (4*k+i+halfBits-1)%halfBits+1)
		}
	}
	return table
}

// mixTable is the table P.
func mixTable() []int {
	return []int{
		16, 7, 20, 21, 29, 12, 28, 17, 1, 15, 23, 26, 5, 18, 31, 10,
		2, 8, 24, 14, 32, 27, 3, 9, 19, 13, 30, 6, 22, 11, 4, 25,
	}
}

// keyTable is the table PC1. Its numbers count a parity bit behind each seven
// bits of a key, which the key does not have.
func keyTable() []int {
	table := []int{
		57, 49, 41, 33, 25, 17, 9, 1, 58, 50, 42, 34, 26, 18,
		10, 2, 59, 51, 43, 35, 27, 19, 11, 3, 60, 52, 44, 36,
		63, 55, 47, 39, 31, 23, 15, 7, 62, 54, 46, 38, 30, 22,
		14, 6, 61, 53, 45, 37, 29, 21, 13, 5, 28, 20, 12, 4,
	}
	for i, p := range table {
		table[i] = p - (p-1)/8
	}
	return table
}

// roundKeyTable is the table PC2.
func roundKeyTable() []int {
	return []int{
		14, 17, 11, 24, 1, 5, 3, 28, 15, 6, 21, 10,
		23, 19, 12, 4, 26, 8, 16, 7, 27, 20, 13, 2,
		41, 52, 31, 37, 47, 55, 30, 40, 51, 45, 33, 48,
		44, 49, 39, 56, 34, 53, 46, 42, 50, 36, 29, 32,
	}
}

// boxRows is the four rows of S-box k. A row's sixteen numbers have four bits each,
// so that they stand as the hexadecimal digits of one.
func boxRows(k int) [4]uint64 {
	switch k {
	case 1:
		return [4]uint64{0xe4d12fb83a6c5907, 0x0f74e2d1a6cb9538, 0x41e8d62bfc973a50, 0xfc8249175b3ea06d}
	case 2:
		return [4]uint64{0xf18e6b34972dc05a, 0x3d47f28ec01a69b5, 0x0e7ba4d158c6932f, 0xd8a13f42b67c05e9}
	case 3:
		return [4]uint64{0xa09e63f51dc7b428, 0xd709346a285ecbf1, 0xd6498f30b12c5ae7, 0x1ad069874fe3b52c}
	case 4:
		return [4]uint64{0x7de3069a1285bc4f, 0xd8b56f03472c1ae9, 0xa690cb7df13e5284, 0x3f06a1d8945bc72e}
	case 5:
		return [4]uint64{0x2c417ab6853fd0e9, 0xeb2c47d150fa3986, 0x421bad78f9c5630e, 0xb8c71e2d6f09a453}
	case 6:
		return [4]uint64{0xc1af92680d34e75b, 0xaf427c9561de0b38, 0x9ef528c3704a1db6, 0x432c95fabe17608d}
	case 7:
		return [4]uint64{0x4b2ef08d3c975a61, 0xd0b7491ae35c2f86, 0x14bdc37eaf680592, 0x6bd814a7950fe23c}
	default:
		return [4]uint64{0xd2846fb1a93e50c7, 0x1fd8a374c56b0e92, 0x7b419ce206adf358, 0x21e74a8dfc90356b}
	}
}
