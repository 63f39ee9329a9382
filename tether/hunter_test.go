package tether_test

import (
	"bytes"
	"fmt"
	"math/rand"
	"slices"
	"strings"
	"testing"

	"tether/api"
	"tether/tether"
)

// tell writes what was found as a text, one word each.
func tell(found []api.Found) string {
	words := []string{}
	for _, f := range found {
		word := map[int]string{api.Good: "good", api.Aborted: "aborted", api.Short: "short",
			api.Odd: "odd", api.Bad: "bad", api.Long: "long"}[f.Kind]
		if f.Kind == api.Good || len(f.Bytes) > 0 {
			word += fmt.Sprintf("%v", f.Bytes)
		}
		words = append(words, word)
	}
	return strings.Join(words, " ")
}

func feed(t *testing.T, h *tether.Hunter, bits, want string) {
	t.Helper()
	found, e := h.Feed(packed(bits))
	if got := tell(found); got != want || e != api.OK {
		t.Errorf("P4: Feed(%s) = %q, %d, want %q", bits, got, e, want)
	}
}

// hunterOn gives a hunter that has heard a flag.
func hunterOn(t *testing.T) *tether.Hunter {
	t.Helper()
	h := tether.NewHunter()
	feed(t, h, flag, "")
	return h
}

func TestP4HunterBeginsOff(t *testing.T) {
	feed(t, tether.NewHunter(), "", "")
	feed(t, tether.NewHunter(), strings.Repeat("0", 40)+flag, "")
	feed(t, tether.NewHunter(), "00"+"1111111", "")
	// A count of 0: six ones and a 0 are a flag, five and a 0 are none.
	feed(t, tether.NewHunter(), "1111110"+"0"+flag, "short")
	feed(t, tether.NewHunter(), "111110"+"0"+flag, "")
}

func TestP4NumbersOfBits(t *testing.T) {
	for _, c := range []struct {
		noughts int
		want    string
	}{
		{0, ""}, {1, "short"}, {8, "short"}, {16, "short"}, {24, "short"},
		{31, "short"}, {32, "bad"}, {33, "odd"}, {39, "odd"}, {40, "bad"},
		{8*66 - 1, "odd"}, {8 * 66, "bad"}, {8*66 + 1, "odd"},
		{8*67 - 1, "odd"}, {8 * 67, "long"}, {8*67 + 1, "odd"},
		{8 * 68, "long"}, {8*68 + 7, "odd"}, {8 * 5000, "long"}, {8*5000 + 4, "odd"},
	} {
		h := hunterOn(t)
		feed(t, h, strings.Repeat("0", c.noughts)+flag, c.want)
		feed(t, h, "0"+flag, "short") // nothing is left of what was told
	}
	for n := 8 * 66; n < 8*80; n++ {
		want := "odd"
		if n == 8*66 {
			want = "bad"
		} else if n%8 == 0 {
			want = "long"
		}
		feed(t, hunterOn(t), strings.Repeat("0", n)+flag, want)
	}
}

func TestP4GoodFrames(t *testing.T) {
	for n := 2; n <= api.MaxFrame; n++ {
		for _, x := range []byte{0, 0x7E, 0xFF, 0xF8, 0x1F, 0x55} {
			frame := bytes.Repeat([]byte{x}, n)
			frame[0] = byte(n)
			feed(t, tether.NewHunter(), mustBits(t, frame), fmt.Sprintf("good%v", frame))
		}
	}
	// The shortest are of two bytes: one and its sum are too short, though the sum is right.
	feed(t, hunterOn(t), lowestFirst(withSum([]byte{0x55})...)+flag, "short")
	// Too long by one, though the sum is right.
	long := stuff(lowestFirst(withSum(make([]byte, api.MaxFrame+1))...))
	feed(t, hunterOn(t), long+flag, "long")
}

// stuff puts the noughts in, for frames that Bits does not write.
func stuff(bits string) string { return strings.ReplaceAll(bits, "11111", "111110") }

func TestP4BadFrames(t *testing.T) {
	frame := []byte{0x55, 0x2A, 0x11}
	right := withSum(frame)
	swapped := slices.Clone(right)
	swapped[3], swapped[4] = swapped[4], swapped[3]
	feed(t, hunterOn(t), stuff(lowestFirst(right...))+flag, "good[85 42 17]")
	feed(t, hunterOn(t), stuff(lowestFirst(swapped...))+flag, "bad")
	for i := range 8 * len(right) {
		wrong := slices.Clone(right)
		wrong[i/8] ^= 1 << (i % 8)
		feed(t, hunterOn(t), stuff(lowestFirst(wrong...))+flag, "bad")
	}
}

func TestP4OnesInARow(t *testing.T) {
	h := hunterOn(t)
	feed(t, h, strings.Repeat("111110", 6)+"0"+flag, "short") // 31 bits: the noughts behind five ones are none
	feed(t, h, strings.Repeat("111110", 6)+"00"+flag, "bad")
	feed(t, h, strings.Repeat("111110", 6)+"000"+flag, "odd")
	feed(t, h, strings.Repeat("11110", 6)+"00"+flag, "bad") // behind four ones they are
	// Five ones and a nought belong to a frame, six to a flag, seven end it.
	feed(t, h, "00 111110 00"+flag, "short")
	feed(t, h, "00 1111110 00"+flag, "short short") // 1 bit and 2 bits: the nought ahead of the ones is the flag's
	feed(t, h, "00 11111110 00"+flag, "aborted")
}

func TestP4Flags(t *testing.T) {
	h := hunterOn(t)
	feed(t, h, flag+flag+flag, "")
	feed(t, h, "1111110 1111110", "") // flags that share a nought
	feed(t, h, "0"+flag, "short")
	// Six bits are left out, whatever they are: here one of them is a one of the frame, as the nought behind five ones is none.
	feed(t, h, "111110 1111110", "short")
	feed(t, h, "0"+flag, "short")
	feed(t, h, strings.Repeat("0", 28)+"111110 1111110", "bad") // 32 bits
}

func TestP4Aborted(t *testing.T) {
	for _, c := range []struct{ bits, want string }{
		{"1111111", ""},                            // 5 bits
		{"0 1111111", ""},                          // 6 bits
		{"00 1111111", "aborted"},                  // 7 bits
		{"10 1111111", "aborted"},                  // 7 bits
		{"111110 1111111", "aborted"},              // 10 bits
		{"00 11111111111111111", "aborted"},        // once
		{"00 1111111 00 1111111", "aborted"},       // off already
		{"00 1111111 0" + "000" + flag, "aborted"}, // off till a flag
		{strings.Repeat("0", 8*67) + "1111111", "aborted"},
		{strings.Repeat("0", 50000) + "1111111", "aborted"},
	} {
		feed(t, hunterOn(t), c.bits, c.want)
	}
	h := hunterOn(t)
	feed(t, h, "0000 1111111", "aborted")
	feed(t, h, strings.Repeat("1", 300)+"0", "")
	feed(t, h, strings.Repeat("01", 40)+flag, "")
	feed(t, h, "00"+flag, "short")
	feed(t, h, "0 1111111", "")
	feed(t, h, "00"+flag, "") // off, though nothing was told
	feed(t, h, mustBits(t, []byte("ab")), "good[97 98]")
}

func TestP4CutInPieces(t *testing.T) {
	frames := [][]byte{[]byte("ab"), bytes.Repeat([]byte{0xFF}, api.MaxFrame), {0xF8, 0x1F, 0x7E}}
	bits := mustBits(t, frames...) + "00" + "1111111" + mustBits(t, []byte("cd")) + "0" + flag
	want := fmt.Sprintf("good%v good%v good%v aborted good%v short", frames[0], frames[1], frames[2], []byte("cd"))
	for cut := range len(bits) {
		h := tether.NewHunter()
		first, _ := h.Feed(bits[:cut])
		second, _ := h.Feed(bits[cut:])
		if got := tell(slices.Concat(first, second)); got != want {
			t.Errorf("P4: cut at %d: %q, want %q", cut, got, want)
		}
	}
	// A flag cut in two: it is told when its last bit comes.
	ab := mustBits(t, []byte("ab"))
	for cut := 1; cut < len(flag); cut++ {
		h := tether.NewHunter()
		feed(t, h, flag[:cut], "")
		feed(t, h, flag[cut:]+ab[len(flag):len(ab)-cut], "")
		feed(t, h, "", "")
		feed(t, h, ab[len(ab)-cut:], "good[97 98]")
	}
}

func checkWrong(t *testing.T, h *tether.Hunter, bits string) {
	t.Helper()
	if found, e := h.Feed(bits); found != nil || e != api.ErrArg {
		t.Errorf("P4: Feed(%q) = %v, %d, want ErrArg", bits, found, e)
	}
}

func TestP4WrongCharacters(t *testing.T) {
	ab := mustBits(t, []byte("ab"))
	for _, wrong := range []string{"2", "/", " ", "a", "\x00", "\x01", "\xff", "\xc0\xb0", "é", "０", "１", "\n", "-"} {
		h := hunterOn(t)
		feed(t, h, ab[len(flag):20], "")
		for _, bits := range []string{wrong, wrong + "0", "0" + wrong, "1" + wrong + "1", "1111111" + wrong,
			flag + flag + wrong, ab + wrong, ab + wrong + ab, strings.Repeat("0", 1000) + wrong} {
			checkWrong(t, h, bits)
		}
		feed(t, h, ab[20:], "good[97 98]")
	}
}

func TestP4WrongCharactersChangeNothing(t *testing.T) {
	bits := mustBits(t, []byte{0xFF, 0x1F, 0x7E}) + "00 1111111 0" + mustBits(t, []byte("ab"))
	bits = packed(bits)
	for _, wrong := range []string{"x", "0x", "1x", "1111111x", flag + "x", bits + "x"} {
		for cut := range len(bits) + 1 {
			h := tether.NewHunter()
			first, _ := h.Feed(bits[:cut])
			checkWrong(t, h, wrong)
			second, _ := h.Feed(bits[cut:])
			if got := tell(slices.Concat(first, second)); got != "good[255 31 126] aborted good[97 98]" {
				t.Errorf("P4: behind %q at %d: %q", wrong, cut, got)
			}
		}
	}
}

// words is a hunter by the words of the document, that keeps all it has.
type words struct {
	on    bool
	count int
	has   string
	told  []api.Found
}

func (w *words) feed(bits string) {
	for _, bit := range bits {
		if bit == '1' {
			w.one()
		} else {
			w.nought()
		}
	}
}

func (w *words) one() {
	w.count++
	if w.count == 7 && w.on {
		if len(w.has) > 6 {
			w.told = append(w.told, api.Found{Kind: api.Aborted})
		}
		w.on = false
	}
	if w.on && w.count <= 5 {
		w.has += "1"
	}
}

func (w *words) nought() {
	if w.count == 6 {
		if w.on && len(w.has) > 6 {
			w.tell(w.has[:len(w.has)-6])
		}
		w.on, w.has = true, ""
	} else if w.count != 5 && w.on {
		w.has += "0"
	}
	w.count = 0
}

func (w *words) tell(bits string) {
	b := make([]byte, len(bits)/8)
	for i := range 8 * len(b) {
		b[i/8] |= (bits[i] - '0') << (i % 8)
	}
	found := api.Found{}
	switch {
	case len(bits) < 32:
		found.Kind = api.Short
	case len(bits)%8 != 0:
		found.Kind = api.Odd
	case len(b) > api.MaxFrame+2:
		found.Kind = api.Long
	case !bytes.Equal(b, withSum(b[:len(b)-2])):
		found.Kind = api.Bad
	default:
		found = api.Found{Kind: api.Good, Bytes: b[:len(b)-2]}
	}
	w.told = append(w.told, found)
}

func TestP4AllShortTexts(t *testing.T) {
	for n := range 1 << 15 {
		bits := flag + fmt.Sprintf("%015b", n) + "00" + flag
		var w words
		w.feed(bits)
		found, e := tether.NewHunter().Feed(bits)
		if e != api.OK || tell(found) != tell(w.told) {
			t.Fatalf("P4: Feed(%s) = %q, %d, want %q", bits, tell(found), e, tell(w.told))
		}
	}
}

// noise gives bits in which flags, aborts, frames and long stretches of either bit come often.
func noise(t *testing.T, r *rand.Rand) string {
	switch r.Intn(6) {
	case 0:
		return flag
	case 1:
		return strings.Repeat("1", r.Intn(9))
	case 2:
		return strings.Repeat("0", r.Intn(700))
	case 3:
		frame := make([]byte, 2+r.Intn(api.MaxFrame-1))
		r.Read(frame)
		return mustBits(t, frame)
	case 4:
		frame := make([]byte, r.Intn(70))
		r.Read(frame)
		return flag + stuff(lowestFirst(withSum(frame)...)) + flag
	}
	return fmt.Sprintf("%b", r.Int63())
}

func TestP4AgainstTheWords(t *testing.T) {
	r := rand.New(rand.NewSource(1))
	for range 300 {
		h := tether.NewHunter()
		var w words
		for range 40 {
			bits := noise(t, r)
			w.told = nil
			w.feed(bits)
			feed(t, h, bits, tell(w.told))
		}
	}
}
