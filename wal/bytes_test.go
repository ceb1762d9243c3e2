package wal

import (
	"bytes"
	"encoding/binary"
	"hash/crc32"
	"math/rand/v2"
	"testing"

	"courier/api"
)

// layRecord and lay write a record and an area by the library's means, to be held against the package's own.
func layRecord(content string) []byte {
	var b []byte
	b = binary.BigEndian.AppendUint32(b, uint32(len(content)))
	b = binary.BigEndian.AppendUint32(b, ^uint32(len(content)))
	b = binary.BigEndian.AppendUint32(b, crc32.ChecksumIEEE([]byte(content)))
	return append(append(b, content...), 0xA5)
}

func layHead(gen uint64) []byte {
	b := binary.BigEndian.AppendUint64([]byte("HWL1"), gen)
	b = binary.BigEndian.AppendUint32(b, crc32.ChecksumIEEE(b))
	return append(b, 0xA5)
}

func lay(gen uint64, snapshot string, records ...string) []byte {
	b := append(layHead(gen), layRecord(snapshot)...)
	for _, r := range records {
		b = append(b, layRecord(r)...)
	}
	return b
}

func dice(seed uint64) *rand.Rand {
	return rand.New(rand.NewPCG(seed, 3))
}

func someBytes(r *rand.Rand, n int) []byte {
	b := make([]byte, n)
	for i := range b {
		b[i] = byte(r.Uint32())
	}
	return b
}

func TestSum(t *testing.T) {
	if got := sum([]byte("123456789")); got != 0xCBF43926 {
		t.Errorf("the nine digits: %X", got)
	}
	if got := sum(nil); got != 0 {
		t.Errorf("of no byte: %X", got)
	}
	for i := range 256 {
		b := []byte{byte(i)}
		if sum(b) != crc32.ChecksumIEEE(b) {
			t.Errorf("of the byte %02X: %X", i, sum(b))
		}
	}
	r := dice(1)
	for range 500 {
		b := someBytes(r, r.IntN(300))
		if sum(b) != crc32.ChecksumIEEE(b) {
			t.Errorf("of % X: %X", b, sum(b))
		}
	}
}

func TestHeadBytes(t *testing.T) {
	if got := head(1); !bytes.Equal(got[:12], []byte{0x48, 0x57, 0x4C, 0x31, 0, 0, 0, 0, 0, 0, 0, 1}) || len(got) != 17 {
		t.Errorf("head(1) = % X", got)
	}
	for _, gen := range []uint64{1, 2, 255, 256, 0x0102030405060708, api.MaxGen - 1, api.MaxGen} {
		if got := head(gen); !bytes.Equal(got, layHead(gen)) {
			t.Errorf("head(%d) = % X", gen, got)
		}
		if got, ok := headOf(layHead(gen)); got != gen || !ok {
			t.Errorf("headOf(%d) = %d, %v", gen, got, ok)
		}
		if got, ok := headOf(append(layHead(gen), 9)); got != gen || !ok {
			t.Errorf("headOf(%d) with a byte behind it = %d, %v", gen, got, ok)
		}
	}
	for _, gen := range []uint64{0, api.MaxGen + 1, 1<<63 + 1, 1<<64 - 1} {
		if got, ok := headOf(layHead(gen)); got != 0 || ok {
			t.Errorf("headOf(%d) = %d, %v", gen, got, ok)
		}
	}
}

// TestHeadSpoilt: a head of which any byte is another one, or missing, is not whole.
func TestHeadSpoilt(t *testing.T) {
	for at := range headSize {
		for bit := range 8 {
			b := layHead(5)
			b[at] ^= 1 << bit
			if gen, ok := headOf(b); ok || gen != 0 {
				t.Errorf("byte %d, bit %d: %d", at, bit, gen)
			}
		}
		if _, ok := headOf(layHead(5)[:at]); ok {
			t.Errorf("the first %d bytes are a head", at)
		}
	}
}

func TestRecordBytes(t *testing.T) {
	if got := record(nil, []byte{7}); !bytes.Equal(got[:8], []byte{0, 0, 0, 1, 255, 255, 255, 254}) || got[12] != 7 || got[13] != 0xA5 || len(got) != 14 {
		t.Errorf("record of 07: % X", got)
	}
	r := dice(2)
	for _, n := range []int{0, 1, 2, 255, 256, 257, 19999, 20000, 20001, 65536, 1<<21 - 1, 1 << 21} {
		content := someBytes(r, n)
		b := record([]byte("ahead"), content)
		if !bytes.Equal(b, append([]byte("ahead"), layRecord(string(content))...)) {
			t.Errorf("a record of %d bytes is not as it must be", n)
		}
		got, ok := recordOf(append(b[5:], "behind"...), 0, api.MaxSnapshot)
		if !ok || !bytes.Equal(got, content) {
			t.Errorf("a record of %d bytes is not read", n)
		}
	}
}

func TestRecordBounds(t *testing.T) {
	for _, x := range []struct {
		size, least, most int
		ok                bool
	}{
		{0, 0, 0, true}, {0, 1, 9, false}, {1, 1, 9, true}, {9, 1, 9, true}, {10, 1, 9, false}, {1, 0, 0, false},
	} {
		got, ok := recordOf(layRecord("0123456789"[:x.size]), x.least, x.most)
		if ok != x.ok || ok && len(got) != x.size || !ok && got != nil {
			t.Errorf("%d bytes of %d to %d: %d, %v", x.size, x.least, x.most, len(got), ok)
		}
	}
}

// TestRecordSpoilt: a record of which any byte is another one, or missing, is not whole.
func TestRecordSpoilt(t *testing.T) {
	for _, content := range []string{"", "\x00", "ab", "\x00\x00\x00\xA5", "\xA5\xA5\xA5\xA5"} {
		for at := range around + len(content) {
			for bit := range 8 {
				b := append(layRecord(content), make([]byte, 40)...)
				b[at] ^= 1 << bit
				if got, ok := recordOf(b, 0, api.MaxSnapshot); ok || got != nil {
					t.Errorf("%q: byte %d, bit %d: %q", content, at, bit, got)
				}
			}
			if _, ok := recordOf(layRecord(content)[:at], 0, api.MaxSnapshot); ok {
				t.Errorf("%q: the first %d bytes are a record", content, at)
			}
			torn := append(layRecord(content)[:at], make([]byte, around+len(content)+20-at)...)
			if _, ok := recordOf(torn, 0, api.MaxSnapshot); ok {
				t.Errorf("%q: the first %d bytes and zeros are a record", content, at)
			}
		}
	}
}

// TestLengthBeyond: a length that agrees with its turned copy, but has no bytes behind it, or is greater than any slice.
func TestLengthBeyond(t *testing.T) {
	for _, n := range []uint32{2, 3, 100, 20000, 20001, 1 << 21, 1<<21 + 1, 1<<31 - 1, 1 << 31, 1<<32 - 13, 1<<32 - 1} {
		b := binary.BigEndian.AppendUint32(nil, n)
		b = binary.BigEndian.AppendUint32(b, ^n)
		b = append(b, 0, 0, 0, 0, 7, 0xA5)
		if got, ok := recordOf(b, 0, api.MaxSnapshot); ok || got != nil {
			t.Errorf("a length of %d: % X", n, got)
		}
	}
}
