package wal

// halves: what the CRC makes of each half byte. A half, because a table of whole bytes would be too long to be written out.
var halves = [16]uint32{
	0x00000000, 0x1DB71064, 0x3B6E20C8, 0x26D930AC, 0x76DC4190, 0x6B6B51F4, 0x4DB26158, 0x5005713C,
	0xEDB88320, 0xF00F9344, 0xD6D6A3E8, 0xCB61B38C, 0x9B64C2B0, 0x86D3D2D4, 0xA00AE278, 0xBDBDF21C,
}

// sum is the CRC-32 of IEEE 802.3, bits turned.
func sum(b []byte) uint32 {
	crc := ^uint32(0)
	for _, c := range b {
		crc ^= uint32(c)
		crc = crc>>4 ^ halves[crc&15]
		crc = crc>>4 ^ halves[crc&15]
	}
	return ^crc
}
