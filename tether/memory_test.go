package tether_test

import (
	"bytes"
	"slices"
	"testing"

	"tether/api"
	"tether/tether"
)

// roomy gives the bytes of a text with room behind them that is all 0xEE.
func roomy(text string) []byte {
	b := bytes.Repeat([]byte{0xEE}, len(text)+80)
	copy(b, text)
	return b[:len(text)]
}

func checkRoom(t *testing.T, b []byte, want string) {
	t.Helper()
	if string(b) != want {
		t.Errorf("P1: what was handed in is %q, was %q", b, want)
	}
	for i, x := range b[len(b):cap(b)] {
		if x != 0xEE {
			t.Errorf("P1: the room behind %q was written into, at %d", want, i)
			return
		}
	}
}

func TestP1HandedInIsNotWrittenInto(t *testing.T) {
	texts := []string{"hello", "~~", string(bytes.Repeat([]byte{0xFF}, api.MaxFrame))}
	for _, text := range texts {
		b := roomy(text)
		tether.Sum(b)
		checkRoom(t, b, text)
		mustBits(t, b)
		checkRoom(t, b, text)
		mustBits(t, b, b)
		checkRoom(t, b, text)
		// With an error too.
		tether.Bits(b, nil)
		checkRoom(t, b, text)
	}
	// Frames that stand one behind the other in one piece of memory.
	whole := roomy("abcdefgh")
	if got, want := mustBits(t, whole[:3], whole[3:5], whole[5:]), mustBits(t, []byte("abc"), []byte("de"), []byte("fgh")); got != want {
		t.Errorf("P1: Bits of frames side by side = %s, want %s", got, want)
	}
	checkRoom(t, whole, "abcdefgh")
}

func TestP1ListOfFramesIsNotWrittenInto(t *testing.T) {
	behind := []byte("behind")
	list := [][]byte{[]byte("ab"), []byte("cd"), behind, behind}
	mustBits(t, list[:2]...)
	for i, want := range []string{"ab", "cd", "behind", "behind"} {
		if string(list[i]) != want {
			t.Errorf("P1: frame %d of the list is %q, was %q", i, list[i], want)
		}
	}
}

func TestP1HandedInIsNotKept(t *testing.T) {
	frame := []byte("hello")
	list := [][]byte{frame, frame}
	text := mustBits(t, list...)
	kept := string([]byte(text))
	clear(frame)
	clear(list)
	if text != kept {
		t.Errorf("P1: the bits changed with the frame")
	}
	if again := mustBits(t, []byte("hello"), []byte("hello")); again != kept {
		t.Errorf("P1: Bits = %s, was %s", again, kept)
	}
}

// spoil writes into all that an answer has, its spare room too.
func spoil(found []api.Found) {
	for _, f := range found {
		room := f.Bytes[:cap(f.Bytes)]
		for i := range room {
			room[i] = 9
		}
	}
	room := found[:cap(found)]
	for i := range room {
		room[i] = api.Found{Kind: 9}
	}
}

func TestP1FoundIsNewMemory(t *testing.T) {
	bits := mustBits(t, []byte("hello"), []byte("hello"), []byte("ab"))
	const want = "good[104 101 108 108 111] good[104 101 108 108 111] good[97 98]"
	h, other := tether.NewHunter(), tether.NewHunter()
	// A frame is under way while the answer is written into.
	first, _ := h.Feed(bits + bits[len(flag):30])
	second, _ := h.Feed(bits[30:])
	third, _ := other.Feed(bits)
	if tell(first) != want || tell(second) != want || tell(third) != want {
		t.Fatalf("P4: Feed = %q, %q, %q, want %q each", tell(first), tell(second), tell(third), want)
	}
	feed(t, h, bits[len(flag):30], "")
	spoil(first)
	if tell(second) != want || tell(third) != want {
		t.Errorf("P1: answers share memory: %q, %q, want %q each", tell(second), tell(third), want)
	}
	feed(t, h, bits[30:], want)
}

func TestP1FoundWithinOneAnswer(t *testing.T) {
	bits := mustBits(t, []byte("hello"), []byte("world"), []byte("ab"))
	found, _ := tether.NewHunter().Feed(bits)
	for i := range found {
		before := slices.Clone(found)
		for j := range before {
			before[j].Bytes = bytes.Clone(found[j].Bytes)
		}
		room := found[i].Bytes[:cap(found[i].Bytes)]
		for k := range room {
			room[k] ^= 0xFF
		}
		for j := range found {
			if j != i && !bytes.Equal(found[j].Bytes, before[j].Bytes) {
				t.Errorf("P1: frames %d and %d share memory", i, j)
			}
		}
	}
}

func TestP1AnswersStayAsTheyAre(t *testing.T) {
	h := tether.NewHunter()
	first, _ := h.Feed(mustBits(t, []byte("hello"), []byte("ab")))
	want := tell(first)
	feed(t, h, mustBits(t, []byte("WORLD"), []byte("CD")), "good[87 79 82 76 68] good[67 68]")
	if tell(first) != want {
		t.Errorf("P1: a later call changed an answer: %q, was %q", tell(first), want)
	}
}

func TestP1OnlyGoodFramesHaveBytes(t *testing.T) {
	h := hunterOn(t)
	for _, bits := range []string{"00" + flag, "00 1111111" + flag} {
		found, _ := h.Feed(packed(bits))
		if len(found) != 1 || found[0].Bytes != nil {
			t.Errorf("P4: Feed(%s) = %v, want one without bytes", bits, found)
		}
	}
}

func TestP1HuntersAreApart(t *testing.T) {
	one, other := tether.NewHunter(), tether.NewHunter()
	if one == other {
		t.Fatalf("P1: NewHunter gave one hunter twice")
	}
	ab, cd := mustBits(t, []byte("ab")), mustBits(t, []byte("cd"))
	feed(t, one, ab[:25], "")
	feed(t, other, "0"+flag, "")
	feed(t, other, cd[:33], "")
	feed(t, one, ab[25:], "good[97 98]")
	feed(t, tether.NewHunter(), cd[33:], "")
	feed(t, other, cd[33:], "good[99 100]")
}

func TestP1AllTextsAndBytes(t *testing.T) {
	h := tether.NewHunter()
	for x := range 1 << 16 {
		b := []byte{byte(x), byte(x >> 8)}
		if n := tether.Sum(b); n < 0 || n > 0xFFFF {
			t.Fatalf("P2: Sum(%v) = %d", b, n)
		}
		bits := mustBits(t, b)
		if found, e := h.Feed(bits); e != api.OK || len(found) != 1 || !bytes.Equal(found[0].Bytes, b) {
			t.Fatalf("P4: Feed(%s) = %q, %d", bits, tell(found), e)
		}
		want := api.ErrArg
		if b[0]|1 == '1' && b[1]|1 == '1' {
			want = api.OK
		}
		if found, e := tether.NewHunter().Feed(string(b)); e != want || found != nil {
			t.Fatalf("P4: Feed(%q) = %v, %d, want error %d", b, found, e, want)
		}
	}
}

// spoilBytes writes into bytes and their spare room.
func spoilBytes(b []byte) {
	room := b[:cap(b)]
	for i := range room {
		room[i] = 0xAA
	}
}

func TestP1InfosAndFramesAreNotWrittenInto(t *testing.T) {
	for _, modulo := range modulos {
		for _, kind := range kinds {
			for _, text := range []string{"", "a", "abc", "abcde", string(bytes.Repeat([]byte("x"), 32)), string(bytes.Repeat([]byte("x"), 33))} {
				for _, address := range []int{1, 2} {
					info := roomy(text)
					frame := api.Frame{Address: address, Kind: kind, Info: info}
					tether.Write(modulo, frame)
					checkRoom(t, info, text)
				}
			}
		}
		for _, text := range []string{"", "\x01", "\x01\x00", "\x01\x00\x00", "\x01\x00\x00abc", "\x03\x87abc", "\x03\x87abcde", "\x03\x0d", "\x09"} {
			b := roomy(text)
			tether.Read(modulo, b)
			checkRoom(t, b, text)
		}
	}
}

func TestP1InfosAreNotKept(t *testing.T) {
	for _, modulo := range modulos {
		for _, f := range []api.Frame{
			{Address: 3, Kind: api.I, NS: 5, NR: 2, Poll: true, Info: roomy("a message")},
			{Address: 1, Kind: api.I, Info: roomy(string(bytes.Repeat([]byte("x"), 32)))},
			{Address: 1, Kind: api.FRMR, Info: plainInfo(modulo, api.FRMR)},
		} {
			info := string(f.Info)
			b, e := tether.Write(modulo, f)
			if e != api.OK {
				t.Fatalf("P5: Write(%d, %v): error %d", modulo, f, e)
			}
			text := string(b)
			spoilBytes(f.Info)
			if string(b) != text {
				t.Errorf("P1: what Write gave changed with the info: %q, was %q", b, text)
			}
			read, _ := tether.Read(modulo, b)
			spoilBytes(b)
			if string(read.Info) != info {
				t.Errorf("P1: what Read gave changed with the bytes: %q, was %q", read.Info, info)
			}
		}
	}
}

func TestP1InfosAndFramesAreNewMemory(t *testing.T) {
	for _, modulo := range modulos {
		for _, text := range []string{"", "a", "a message", string(bytes.Repeat([]byte("x"), 32))} {
			f := api.Frame{Address: 3, Kind: api.I, NS: 5, Info: roomy(text)}
			first, _ := tether.Write(modulo, f)
			second, _ := tether.Write(modulo, f)
			want := string(second)
			spoilBytes(first)
			checkRoom(t, f.Info, text)
			if string(second) != want {
				t.Errorf("P1: two answers of Write share memory: %q, was %q", second, want)
			}
			b := roomy(want)
			one, _ := tether.Read(modulo, b)
			other, _ := tether.Read(modulo, b)
			spoilBytes(one.Info)
			checkRoom(t, b, want)
			if string(other.Info) != text {
				t.Errorf("P1: two answers of Read share memory: %q, was %q", other.Info, text)
			}
			// Nothing of the answers is used again.
			if again, _ := tether.Write(modulo, f); string(again) != want {
				t.Errorf("P1: Write = %q, was %q", again, want)
			}
		}
	}
}

func TestP1InfosSentAreTheCallers(t *testing.T) {
	for _, modulo := range modulos {
		p := up(t, "P1: infos that are sent", config(modulo, 1, 5, 4, 2, ours))
		whole := roomy("onetwothree")
		for _, info := range [][]byte{whole[:3], whole[3:6], whole[6:]} {
			checkErrno(t, "P9: Send", p.s.Send(info), api.OK)
		}
		checkErrno(t, "P9: Send of all", p.s.Send(whole[:33]), api.ErrArg)
		checkRoom(t, whole, "onetwothree")
		spoilBytes(whole)
		p.sent("command I 0 0 one")
		p.hears("response REJ 0", "response RR 1", "response REJ 2")
		p.sent("command I 0 0 one", "command I 1 0 two", "command I 2 0 three")
	}
}

func TestP1FullQueueLeavesInfosAsTheyAre(t *testing.T) {
	p := up(t, "P1", small(8))
	for range api.MaxQueue {
		p.sends("x")
	}
	info := roomy("info")
	checkErrno(t, "P9: Send", p.s.Send(info), api.ErrFull)
	checkRoom(t, info, "info")
	down := mustNew(t, small(8))
	checkErrno(t, "P9: Send", down.Send(info), api.ErrState)
	checkRoom(t, info, "info")
}

// What goes out once more does not share memory with what went out.
func TestP1FramesSentOnceMoreAreNewMemory(t *testing.T) {
	p := up(t, "P1", small(8))
	p.sends("one", "two", "three")
	for range 3 {
		first, _ := p.s.Out()
		p.hears("response REJ 0")
		spoilFrames(first)
		second, _ := p.s.Out()
		p.hears("response REJ 0", "command REJ! 0")
		if len(second) != 3 || string(second[0][2:]) != "one" || string(second[1][2:]) != "two" || string(second[2][2:]) != "three" {
			t.Errorf("P1: Out() = %q", second)
		}
		for n, f := range second {
			spoilBytes(f)
			if n < 2 && second[n+1][0] != theirs {
				t.Errorf("P1: frames %d and %d of one answer share memory", n, n+1)
			}
		}
		spoilFrames(second)
		p.sent("command I 0 0 one", "command I 1 0 two", "command I 2 0 three", "response RR! 0", "command I 0 0 one", "command I 1 0 two", "command I 2 0 three")
		p.hears("response REJ 0")
	}
}

func TestP1MessagesHeardAreNotKept(t *testing.T) {
	for _, modulo := range modulos {
		p := up(t, "P1: messages that are heard", config(modulo, 3, 5, 4, 3, ours))
		b := roomy("")
		for n, info := range []string{"one", "", "three"} {
			frame := string(frameOf(t, modulo, theirs, "command I "+string(rune('0'+n))+" 0 "+info))
			b = append(b[:0], frame...)
			clear(b[len(b):cap(b)])
			hear(t, p.s, b)
			if string(b) != frame || slices.ContainsFunc(b[len(b):cap(b)], func(x byte) bool { return x != 0 }) {
				t.Errorf("P1: Hear wrote into its frame: %q, was %q", b[:cap(b)], frame)
			}
			spoilBytes(b)
		}
		p.takes("one", "", "three")
	}
}

func TestP1TakenIsNewMemory(t *testing.T) {
	p := up(t, "P1", config(8, 3, 5, 4, 3, ours))
	p.hears("command I 0 0 one", "command I 1 0 two", "command I 2 0 three")
	first, _ := p.s.Taken()
	p.hears("command I 3 0 four", "command I 4 0 five")
	for n, m := range first {
		spoilBytes(m)
		if n == 0 && string(first[1]) != "two" || n == 1 && string(first[2]) != "three" {
			t.Errorf("P1: two messages of one answer share memory: %q", first)
		}
	}
	spoilFrames(first)
	second, _ := p.s.Taken()
	p.hears("command I 5 0 six", "command I 6 0 seven", "command I 7 0 eight")
	third, _ := p.s.Taken()
	spoilFrames(third)
	if len(second) != 2 || string(second[0]) != "four" || string(second[1]) != "five" {
		t.Errorf("P1: Taken() = %q, want four and five", second)
	}
	p.hears("command I 0 0 nine")
	p.takes("nine")
}

// With an error nothing is changed, and nothing is told.
func TestP1ErrorsOfMessagesChangeNothing(t *testing.T) {
	p := laden(t, "P1")
	view := p.view()
	for _, b := range [][]byte{nil, {3}, {9, 0}, {3, 13}, {3, 17, 0}, append([]byte{3, 4}, make([]byte, 33)...)} {
		_, want := tether.Read(8, b)
		checkErrno(t, "P10: Hear", p.s.Hear(b), want)
	}
	checkErrno(t, "P9: Send", p.s.Send(make([]byte, 33)), api.ErrArg)
	checkErrno(t, "P8: Connect", p.s.Connect(), api.ErrState)
	p.is(view)
	p.sent()
	p.told()
	p.takes("a", "b")
}
