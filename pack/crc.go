package pack

const (
	crcPolynomial = 0xEDB88320
	halfBits      = 4
	halves        = 1 << halfBits
)

// Crc is chapter 1's.
func Crc(b []byte) uint32 {
	table := crcTable()
	sum := ^uint32(0)
	for _, c := range b {
		sum ^= uint32(c)
		for range 2 {
			sum = sum>>halfBits ^ table[sum%halves]
		}
	}
	return ^sum
}

// crcTable answers what each half byte does to a sum. Each call of Crc makes it anew, and what is summed is mostly short: a table for whole bytes would take longer to make than it saves.
func crcTable() [halves]uint32 {
	var table [halves]uint32
	for i := range table {
		sum := uint32(i)
		for range halfBits {
			low := sum % 2
			sum = sum>>1 ^ low*crcPolynomial
		}
		table[i] = sum
	}
	return table
}
