package sums

// polynomial is that of CRC-32, its highest power at the lowest bit.
const polynomial = 0xedb88320

// CRC tells the CRC-32 of a text.
func CRC(text string) uint32 {
	crc := ^uint32(0)
	for i := range len(text) {
		for bit := range 8 {
			differs := (crc^uint32(text[i])>>bit)&1 != 0
			crc >>= 1
			if differs {
				crc ^= polynomial
			}
		}
	}
	return ^crc
}
