package tether_test

import (
	"bytes"
	"strings"
	"testing"

	"tether/api"
	"tether/tether"
)

const flag = "01111110"

// packed takes out the blanks that make bits readable.
func packed(bits string) string { return strings.ReplaceAll(bits, " ", "") }

func mustBits(t *testing.T, frames ...[]byte) string {
	t.Helper()
	text, e := tether.Bits(frames...)
	if e != api.OK {
		t.Fatalf("P3: Bits(%v): error %d", frames, e)
	}
	return text
}

// lowestFirst writes bytes as bits, with nothing put in.
func lowestFirst(b ...byte) string {
	var text strings.Builder
	for _, x := range b {
		for i := range 8 {
			text.WriteByte("01"[x>>i&1])
		}
	}
	return text.String()
}

// withSum puts a frame's sum behind it.
func withSum(frame []byte) []byte {
	sum := tether.Sum(frame)
	return append(bytes.Clone(frame), byte(sum), byte(sum>>8))
}

func TestP2SumOfKnownBytes(t *testing.T) {
	for _, c := range []struct {
		bytes string
		want  int
	}{
		{"", 0},
		{"123456789", 0x906E},
		{"\x00", 0xF078},
		{"\xff", 0xFF00},
		{"a", 0x82F7},
		{"\x03\x3f", 0xEC5B},
	} {
		if got := tether.Sum([]byte(c.bytes)); got != c.want {
			t.Errorf("P2: Sum(%q) = %04X, want %04X", c.bytes, got, c.want)
		}
	}
	if got := tether.Sum(nil); got != 0 {
		t.Errorf("P2: Sum(nil) = %d, want 0", got)
	}
}

// sumByRemainder works the sum out as a remainder of polynomials over the whole text of bits, highest power first.
func sumByRemainder(b []byte) int {
	rest := []byte(lowestFirst(b...) + strings.Repeat("0", 16))
	for i := range 16 {
		rest[i] ^= 1
	}
	for i := range 8 * len(b) {
		if rest[i] == '1' {
			for _, power := range []int{0, 4, 11, 16} { // x^16 + x^12 + x^5 + 1
				rest[i+power] ^= 1
			}
		}
	}
	sum := 0
	for i, c := range rest[8*len(b):] {
		if c == '0' {
			sum |= 1 << i
		}
	}
	return sum
}

func TestP2SumOfManyBytes(t *testing.T) {
	var b []byte
	for x := range 256 {
		if got, want := tether.Sum([]byte{byte(x)}), sumByRemainder([]byte{byte(x)}); got != want {
			t.Errorf("P2: Sum(%d) = %04X, want %04X", x, got, want)
		}
		b = append(b, byte(x*x+7*x))
		if got, want := tether.Sum(b), sumByRemainder(b); got != want {
			t.Errorf("P2: Sum of %d bytes = %04X, want %04X", len(b), got, want)
		}
	}
}

func TestP3WholeTexts(t *testing.T) {
	for _, c := range []struct {
		name   string
		frames [][]byte
		want   string
	}{
		{"no frames", nil, flag},
		{"3 63", [][]byte{{3, 63}}, flag + "11000000 111110100 11011010 00110111" + flag},
		{"noughts", [][]byte{{0, 0}}, flag + "00000000 00000000" + lowestFirst(0x47, 0x0F) + flag},
		{"two frames, one flag between", [][]byte{{3, 63}, {0, 0}},
			flag + "11000000 111110100 11011010 00110111" + flag +
				"00000000 00000000" + lowestFirst(0x47, 0x0F) + flag},
	} {
		if got := mustBits(t, c.frames...); got != packed(c.want) {
			t.Errorf("P3: %s: Bits = %s, want %s", c.name, got, packed(c.want))
		}
	}
}

func TestP3OnesInARow(t *testing.T) {
	for _, c := range []struct {
		name  string
		frame []byte
		want  string
	}{
		{"four", []byte{0x0F, 0}, "11110000 00000000"},
		{"five", []byte{0x1F, 0}, "11111 0 000 00000000"},
		{"six", []byte{0x3F, 0}, "11111 0 100 00000000"},
		{"seven", []byte{0x7F, 0}, "11111 0 110 00000000"},
		{"eight", []byte{0xFF, 0}, "11111 0 111 00000000"},
		{"five over two bytes", []byte{0xE0, 0x03}, "00000111 11 0 000000"},
		{"five that end a byte", []byte{0xF8, 0}, "00011111 0 00000000"},
		{"ten and more", []byte{0xFF, 0x0F}, "11111 0 11111 0 11 0000"},
		{"five, a nought, five", []byte{0xDF, 0x07}, "11111 0 0 11 111 0 00000"},
	} {
		if got := mustBits(t, c.frame); !strings.HasPrefix(got, flag+packed(c.want)) {
			t.Errorf("P3: %s: Bits = %s, want %s first", c.name, got, flag+packed(c.want))
		}
	}
}

// frameWhoseSumEndsIn looks for a frame of two bytes whose sum has these bits on top.
func frameWhoseSumEndsIn(t *testing.T, mask, top int) []byte {
	t.Helper()
	for n := range 1 << 16 {
		frame := []byte{byte(n), byte(n >> 8)}
		if tether.Sum(frame)&mask == top {
			return frame
		}
	}
	t.Fatalf("no frame's sum ends in %X", top)
	return nil
}

func TestP3OnesAtTheEndOfTheSum(t *testing.T) {
	five := mustBits(t, frameWhoseSumEndsIn(t, 0xFC00, 0xF800))
	if !strings.HasSuffix(five, "011111"+"0"+flag) {
		t.Errorf("P3: five ones ahead of the flag: Bits = %s", five)
	}
	four := mustBits(t, frameWhoseSumEndsIn(t, 0xF800, 0xF000))
	if !strings.HasSuffix(four, "01111"+flag) {
		t.Errorf("P3: four ones ahead of the flag: Bits = %s", four)
	}
	both := mustBits(t, frameWhoseSumEndsIn(t, 0xFC00, 0xF800), []byte{0x1F, 0})
	if !strings.Contains(both, "0111110"+flag+"111110000") {
		t.Errorf("P3: the ones of one frame are not the next one's: Bits = %s", both)
	}
}

func TestP3OnesFromTheFrameIntoItsSum(t *testing.T) {
	for x := range 256 {
		frame := []byte{0, byte(x)}
		want := strings.ReplaceAll(lowestFirst(withSum(frame)...), "11111", "111110")
		if got := mustBits(t, frame); got != flag+want+flag {
			t.Errorf("P3: Bits(0 %d) = %s, want %s", x, got, flag+want+flag)
		}
	}
}

func TestP3Lengths(t *testing.T) {
	for n, want := range map[int]api.Errno{0: api.ErrArg, 1: api.ErrArg, 2: api.OK, 3: api.OK,
		63: api.OK, 64: api.OK, 65: api.ErrArg, 66: api.ErrArg, 1000: api.ErrArg} {
		frame := make([]byte, n)
		text, e := tether.Bits(frame)
		if e != want || (text == "") != (want != api.OK) {
			t.Errorf("P3: Bits of %d bytes = %q, %d, want error %d", n, text, e, want)
		}
		for _, frames := range [][][]byte{{frame, {1, 2}}, {{1, 2}, frame}, {{1, 2}, frame, {3, 4}}} {
			text, e := tether.Bits(frames...)
			if e != want || (text == "") != (want != api.OK) {
				t.Errorf("P3: Bits of %d bytes among others = %q, %d, want error %d", n, text, e, want)
			}
		}
	}
	if text, e := tether.Bits(nil, nil); text != "" || e != api.ErrArg {
		t.Errorf("P3: Bits(nil, nil) = %q, %d", text, e)
	}
	full := bytes.Repeat([]byte{0}, api.MaxFrame)
	if got, want := mustBits(t, full), flag+strings.ReplaceAll(lowestFirst(withSum(full)...), "11111", "111110")+flag; got != want {
		t.Errorf("P3: Bits of %d bytes = %s, want %s", api.MaxFrame, got, want)
	}
}
