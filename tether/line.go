package tether

import (
	"strings"

	"tether/api"
)

const (
	flag     = "01111110"
	minFrame = 2 // bytes of a frame, without its sum
	sumBytes = 2
	maxOnes  = 5 // ones in a row that a frame may have on the line: six are a flag's
)

// Sum tells the sum of bytes (P2).
func Sum(b []byte) int {
	sum := uint16(0xFFFF)
	for _, x := range b {
		for range 8 {
			differ := (sum^uint16(x))&1 == 1
			sum >>= 1
			if differ {
				sum ^= 0x8408
			}
			x >>= 1
		}
	}
	return int(^sum)
}

// Bits writes frames as bits (P3).
func Bits(frames ...[]byte) (string, api.Errno) {
	for _, frame := range frames {
		if len(frame) < minFrame || len(frame) > api.MaxFrame {
			return "", api.ErrArg
		}
	}
	var text strings.Builder
	text.WriteString(flag)
	for _, frame := range frames {
		// Texts are joined, not bytes: the room behind a frame is the caller's.
		text.WriteString(stuffed(plainBits(frame) + plainBits(sumOf(frame))))
		text.WriteString(flag)
	}
	return text.String(), api.OK
}

// sumOf tells the Sum as it stands behind a frame.
func sumOf(frame []byte) []byte {
	sum := Sum(frame)
	return []byte{byte(sum), byte(sum >> 8)}
}

func plainBits(b []byte) string {
	var text strings.Builder
	for _, x := range b {
		for range 8 {
			text.WriteByte('0' + x&1)
			x >>= 1
		}
	}
	return text.String()
}

// stuffed puts a 0 behind each five ones, so that no flag stands within a frame.
func stuffed(plain string) string {
	var text strings.Builder
	ones := 0
	for _, bit := range plain {
		text.WriteRune(bit)
		if bit == '0' {
			ones = 0
			continue
		}
		ones++
		if ones == maxOnes {
			text.WriteByte('0')
			ones = 0
		}
	}
	return text.String()
}
