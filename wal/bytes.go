package wal

import (
	"bytes"

	"courier/api"
)

const (
	letters  = "HWL1"
	headSize = 17        // bytes of a head
	around   = 13        // bytes of a record beside its content
	ahead    = 12        // those of them that stand ahead of it
	end      = 0xA5      // the last byte of both: no zero, so that it is not there where a crash left zeros
	turned   = 1<<32 - 1 // turns every bit of a length
)

// areaOf tells in which area a generation stands.
func areaOf(gen uint64) int {
	return int(gen % 2)
}

// head gives a generation's head.
func head(gen uint64) []byte {
	b := number([]byte(letters), gen, 8)
	b = number(b, uint64(sum(b)), 4)
	return append(b, end)
}

// record lays a content, as a record, behind what is there.
func record(b, content []byte) []byte {
	size := uint64(len(content))
	b = number(b, size, 4)
	b = number(b, size^turned, 4)
	b = number(b, uint64(sum(content)), 4)
	b = append(b, content...)
	return append(b, end)
}

// headOf tells the generation of the whole head with which b begins, if it begins with one.
func headOf(b []byte) (gen uint64, ok bool) {
	if len(b) < headSize {
		return 0, false
	}
	gen = value(b[len(letters) : len(letters)+8])
	if gen < firstGen || gen > api.MaxGen || !bytes.Equal(b[:headSize], head(gen)) {
		return 0, false
	}
	return gen, true
}

// recordOf tells the content, of least to most bytes, of the whole record with which b begins, if it begins with one. It is a piece of b.
func recordOf(b []byte, least, most int) (content []byte, ok bool) {
	if len(b) < around {
		return nil, false
	}
	size := value(b[:4])
	// The bounds come ahead of everything that counts with the size: it may be any number of 32 bits.
	if size < uint64(least) || size > uint64(min(most, len(b)-around)) || value(b[4:8]) != size^turned {
		return nil, false
	}
	last := ahead + int(size)
	content = b[ahead:last]
	if b[last] != end || value(b[8:ahead]) != uint64(sum(content)) {
		return nil, false
	}
	return content, true
}

// number lays the lowest bytes of n, so many, the highest first.
func number(b []byte, n uint64, size int) []byte {
	for i := size - 1; i >= 0; i-- {
		b = append(b, byte(n>>(8*i)))
	}
	return b
}

// value tells the number that bytes are, the highest first.
func value(b []byte) uint64 {
	var n uint64
	for _, c := range b {
		n = n<<8 | uint64(c)
	}
	return n
}
