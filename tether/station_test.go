package tether_test

import (
	"bytes"
	"fmt"
	"math"
	"slices"
	"strings"
	"testing"

	"tether/api"
	"tether/tether"
)

func config(modulo, window, timer, tries, room, address int) api.Config {
	return api.Config{Modulo: modulo, Window: window, Timer: timer, Tries: tries, Room: room, Address: address}
}

func mustNew(t *testing.T, c api.Config) *tether.Station {
	t.Helper()
	s, e := tether.New(c)
	if s == nil || e != api.OK {
		t.Fatalf("P7: New(%+v) = %v, %d", c, s != nil, e)
	}
	return s
}

// pair gives the stations of the document's example: A of address 3, B of 1.
func pair(t *testing.T) (a, b *tether.Station) {
	t.Helper()
	return mustNew(t, config(8, 2, 5, 3, 4, 3)), mustNew(t, config(8, 2, 5, 3, 4, 1))
}

func checkErrno(t *testing.T, what string, got, want api.Errno) {
	t.Helper()
	if got != want {
		t.Errorf("%s = %d, want %d", what, got, want)
	}
}

// checkOut compares the frames that are to be sent, told as "1 63, 1 83", and hands them on.
func checkOut(t *testing.T, s *tether.Station, want string) [][]byte {
	t.Helper()
	frames, e := s.Out()
	var told []string
	for _, f := range frames {
		told = append(told, strings.Trim(fmt.Sprint(f), "[]"))
	}
	if got := strings.Join(told, ", "); got != want || e != api.OK {
		t.Errorf("P15: Out() = %q, %d, want %q", got, e, want)
	}
	return frames
}

func checkEvents(t *testing.T, s *tether.Station, want ...int) {
	t.Helper()
	if got, e := s.Events(); !slices.Equal(got, want) || e != api.OK {
		t.Errorf("P15: Events() = %v, %d, want %v", got, e, want)
	}
}

func checkView(t *testing.T, s *tether.Station, want api.View) {
	t.Helper()
	if got, e := s.View(); got != want || e != api.OK {
		t.Errorf("P15: View() = %+v, %d, want %+v", got, e, want)
	}
}

func hear(t *testing.T, s *tether.Station, frames ...[]byte) {
	t.Helper()
	for _, f := range frames {
		checkErrno(t, fmt.Sprintf("P10: Hear(%v)", f), s.Hear(f), api.OK)
	}
}

func tick(t *testing.T, s *tether.Station, times int) {
	t.Helper()
	for range times {
		checkErrno(t, "P14: Tick", s.Tick(), api.OK)
	}
}

// connected gives the stations of the example when both are Up and have told so.
func connected(t *testing.T) (a, b *tether.Station) {
	t.Helper()
	a, b = pair(t)
	checkErrno(t, "P8: Connect", a.Connect(), api.OK)
	hear(t, b, checkOut(t, a, "1 63")...)
	hear(t, a, checkOut(t, b, "1 115")...)
	checkEvents(t, a, api.Connected)
	checkEvents(t, b, api.Connected)
	return a, b
}

// stationIn gives a station of address 3 that calls have led to a state.
func stationIn(t *testing.T, state int) *tether.Station {
	t.Helper()
	s := mustNew(t, config(8, 2, 5, 3, 4, 3))
	if state != api.Down {
		checkErrno(t, "P8: Connect", s.Connect(), api.OK)
	}
	if state == api.Up || state == api.Leaving || state == api.Broken {
		hear(t, s, []byte{1, 115})
	}
	if state == api.Broken {
		hear(t, s, []byte{1, 33})
	}
	if state == api.Leaving {
		checkErrno(t, "P8: Disconnect", s.Disconnect(), api.OK)
	}
	return s
}

// with gives a configuration of which one number is another.
func with(c api.Config, field string, n int) api.Config {
	switch field {
	case "Modulo":
		c.Modulo = n
	case "Window":
		c.Window = n
	case "Timer":
		c.Timer = n
	case "Tries":
		c.Tries = n
	case "Room":
		c.Room = n
	case "Address":
		c.Address = n
	}
	return c
}

func TestP7EachBound(t *testing.T) {
	counts := []struct {
		field       string
		modulo, max int
	}{{"Window", 8, 7}, {"Window", 128, 15}, {"Timer", 8, 100}, {"Timer", 128, 100}, {"Tries", 8, 10}, {"Tries", 128, 10}, {"Room", 8, 16}, {"Room", 128, 16}}
	for _, k := range counts {
		plain := config(k.modulo, 2, 5, 3, 4, 1)
		for _, n := range []int{1, 2, k.max - 1, k.max} {
			checkView(t, mustNew(t, with(plain, k.field, n)), api.View{})
		}
		for _, n := range []int{0, k.max + 1, -1, -k.max, math.MinInt, math.MaxInt, 1<<32 + 1} {
			checkRefused(t, with(plain, k.field, n))
		}
	}
	for n := -200; n <= 300; n++ {
		plain := config(n, 2, 5, 3, 4, 1)
		if n == 8 || n == 128 {
			mustNew(t, plain)
		} else {
			checkRefused(t, plain)
		}
		plain = config(8, 2, 5, 3, 4, n)
		if n == 1 || n == 3 {
			mustNew(t, plain)
		} else {
			checkRefused(t, plain)
		}
	}
	for _, n := range []int{math.MinInt, math.MaxInt, 1<<32 + 8, 1<<32 + 1} {
		checkRefused(t, config(n, 2, 5, 3, 4, 1))
		checkRefused(t, config(8, 2, 5, 3, 4, n))
	}
	checkRefused(t, api.Config{})
}

func checkRefused(t *testing.T, c api.Config) {
	t.Helper()
	if s, e := tether.New(c); s != nil || e != api.ErrArg {
		t.Errorf("P7: New(%+v) = %v, %d, want none and %d", c, s != nil, e, api.ErrArg)
	}
}

func TestP7NewStationIsDown(t *testing.T) {
	for _, c := range []api.Config{config(8, 1, 1, 1, 1, 1), config(8, 7, 100, 10, 16, 3), config(128, 15, 100, 10, 16, 3), config(128, 1, 1, 1, 1, 1)} {
		s := mustNew(t, c)
		checkView(t, s, api.View{State: api.Down})
		checkOut(t, s, "")
		checkEvents(t, s)
		tick(t, s, 3*api.MaxTimer)
		checkView(t, s, api.View{State: api.Down})
		checkOut(t, s, "")
		checkEvents(t, s)
	}
}

// The example of two stations, as far as it calls and connects.
func TestP8P10ExampleOfTwo(t *testing.T) {
	a, b := pair(t)
	checkErrno(t, "P8: Connect", a.Connect(), api.OK)
	checkView(t, a, api.View{State: api.Calling, Timer: 5, Tries: 1})
	call := checkOut(t, a, "1 63")
	checkEvents(t, a)
	hear(t, b, call...)
	checkView(t, b, api.View{State: api.Up})
	checkEvents(t, b, api.Connected)
	answer := checkOut(t, b, "1 115")
	hear(t, a, answer...)
	checkView(t, a, api.View{State: api.Up})
	checkEvents(t, a, api.Connected)
	checkOut(t, a, "")
}

func TestP8OfTheOtherAddressAndModulo(t *testing.T) {
	for _, k := range []struct {
		modulo, address            int
		call, answer, leave, agree string
	}{
		{8, 3, "1 63", "1 115", "1 83", "1 115"},
		{8, 1, "3 63", "3 115", "3 83", "3 115"},
		{128, 3, "1 127", "1 115", "1 83", "1 115"},
		{128, 1, "3 127", "3 115", "3 83", "3 115"},
	} {
		a := mustNew(t, config(k.modulo, 2, 5, 3, 4, k.address))
		b := mustNew(t, config(k.modulo, 2, 5, 3, 4, 4-k.address))
		checkErrno(t, "P8: Connect", a.Connect(), api.OK)
		hear(t, b, checkOut(t, a, k.call)...)
		hear(t, a, checkOut(t, b, k.answer)...)
		checkErrno(t, "P8: Disconnect", a.Disconnect(), api.OK)
		checkView(t, a, api.View{State: api.Leaving, Timer: 5, Tries: 1})
		hear(t, b, checkOut(t, a, k.leave)...)
		checkEvents(t, b, api.Connected, api.Disconnected)
		checkView(t, b, api.View{State: api.Down})
		hear(t, a, checkOut(t, b, k.agree)...)
		checkEvents(t, a, api.Connected, api.Disconnected)
		checkView(t, a, api.View{State: api.Down})
	}
}

func TestP8RefusedChangesNothing(t *testing.T) {
	s := mustNew(t, config(8, 2, 5, 3, 4, 3))
	checkErrno(t, "P8: Disconnect, Down", s.Disconnect(), api.ErrState)
	checkView(t, s, api.View{})
	s.Connect()
	tick(t, s, 7)
	checkErrno(t, "P8: Connect, Calling", s.Connect(), api.ErrState)
	checkView(t, s, api.View{State: api.Calling, Timer: 3, Tries: 2})
	checkOut(t, s, "1 63, 1 63")
	hear(t, s, []byte{1, 115})
	checkErrno(t, "P8: Connect, Up", s.Connect(), api.ErrState)
	checkView(t, s, api.View{State: api.Up})
	s.Disconnect()
	tick(t, s, 6)
	checkErrno(t, "P8: Connect, Leaving", s.Connect(), api.ErrState)
	checkErrno(t, "P8: Disconnect, Leaving", s.Disconnect(), api.ErrState)
	checkView(t, s, api.View{State: api.Leaving, Timer: 4, Tries: 2})
	checkOut(t, s, "1 83, 1 83")
	checkEvents(t, s, api.Connected)
}

// What Calling had goes: the timer and the tries begin anew.
func TestP8DisconnectWhenCalling(t *testing.T) {
	s := mustNew(t, config(8, 2, 5, 3, 4, 3))
	s.Connect()
	tick(t, s, 12)
	checkView(t, s, api.View{State: api.Calling, Timer: 3, Tries: 3})
	checkErrno(t, "P8: Disconnect, Calling", s.Disconnect(), api.OK)
	checkView(t, s, api.View{State: api.Leaving, Timer: 5, Tries: 1})
	checkOut(t, s, "1 63, 1 63, 1 63, 1 83")
	checkEvents(t, s)
}

// atOnce lets frames cross: both ask, go on waiting, and are answered.
func atOnce(t *testing.T, a, b *tether.Station, fromA, fromB string, waiting, then api.View, event int) {
	t.Helper()
	askedA, askedB := checkOut(t, a, fromA), checkOut(t, b, fromB)
	hear(t, a, askedB...)
	hear(t, b, askedA...)
	checkView(t, a, waiting)
	checkView(t, b, waiting)
	answerA, answerB := checkOut(t, a, "3 115"), checkOut(t, b, "1 115")
	hear(t, a, answerB...)
	hear(t, b, answerA...)
	for _, s := range []*tether.Station{a, b} {
		checkView(t, s, then)
		checkEvents(t, s, event)
		checkOut(t, s, "")
	}
}

func TestP10BothCallAtOnce(t *testing.T) {
	a, b := pair(t)
	a.Connect()
	b.Connect()
	atOnce(t, a, b, "1 63", "3 63", api.View{State: api.Calling, Timer: 5, Tries: 1}, api.View{State: api.Up}, api.Connected)
}

func TestP10BothLeaveAtOnce(t *testing.T) {
	a, b := connected(t)
	a.Disconnect()
	b.Disconnect()
	atOnce(t, a, b, "1 83", "3 83", api.View{State: api.Leaving, Timer: 5, Tries: 1}, api.View{State: api.Down}, api.Disconnected)
}

func TestP10P11AnswerThatIsLost(t *testing.T) {
	a, b := pair(t)
	a.Connect()
	hear(t, b, checkOut(t, a, "1 63")...)
	checkOut(t, b, "1 115")
	tick(t, a, 5)
	hear(t, b, checkOut(t, a, "1 63")...)
	checkEvents(t, b, api.Connected, api.Reset)
	hear(t, a, checkOut(t, b, "1 115")...)
	checkEvents(t, a, api.Connected)
	checkView(t, a, api.View{State: api.Up})
	a.Disconnect()
	hear(t, b, checkOut(t, a, "1 83")...)
	checkOut(t, b, "1 115")
	tick(t, a, 5)
	hear(t, b, checkOut(t, a, "1 83")...)
	checkEvents(t, b, api.Disconnected)
	hear(t, a, checkOut(t, b, "1 31")...)
	checkEvents(t, a, api.Disconnected)
	checkView(t, a, api.View{State: api.Down})
}

func TestP10ErrorsOfRead(t *testing.T) {
	for _, k := range []struct {
		modulo int
		b      string
		e      api.Errno
	}{
		{8, "", api.ErrShort},
		{8, "\x02", api.ErrAddress},
		{8, "\x03", api.ErrShort},
		{8, "\x03\x0d", api.ErrControl},
		{8, "\x03\x6f", api.ErrControl},
		{8, "\x03\x3f\x00", api.ErrInfo},
		{8, "\x01\x87\x00\x00", api.ErrInfo},
		{128, "", api.ErrShort},
		{128, "\x00\x7f", api.ErrAddress},
		{128, "\x01", api.ErrShort},
		{128, "\x03\x2f", api.ErrControl},
		{128, "\x03\x01", api.ErrShort},
		{128, "\x03\x7f\x00", api.ErrInfo},
		{128, "\x01\x87\x00\x00\x00", api.ErrInfo},
	} {
		s := mustNew(t, config(k.modulo, 2, 5, 3, 4, 3))
		s.Connect()
		checkErrno(t, fmt.Sprintf("P10: modulo %d: Hear(%q)", k.modulo, k.b), s.Hear([]byte(k.b)), k.e)
		checkView(t, s, api.View{State: api.Calling, Timer: 5, Tries: 1})
		checkOut(t, s, map[int]string{8: "1 63", 128: "1 127"}[k.modulo])
		checkEvents(t, s)
	}
}

func TestP14CallsAndLeavesAgain(t *testing.T) {
	s := mustNew(t, config(8, 2, 5, 3, 4, 3))
	s.Connect()
	tick(t, s, 4)
	checkView(t, s, api.View{State: api.Calling, Timer: 1, Tries: 1})
	checkOut(t, s, "1 63")
	tick(t, s, 1)
	checkView(t, s, api.View{State: api.Calling, Timer: 5, Tries: 2})
	checkOut(t, s, "1 63")
	tick(t, s, 5)
	checkOut(t, s, "1 63")
	tick(t, s, 4)
	checkView(t, s, api.View{State: api.Calling, Timer: 1, Tries: 3})
	checkEvents(t, s)
	tick(t, s, 1)
	checkView(t, s, api.View{State: api.Down})
	checkEvents(t, s, api.Failed)
	checkOut(t, s, "")
	s.Connect()
	hear(t, s, []byte{1, 115})
	tick(t, s, 100)
	checkView(t, s, api.View{State: api.Up})
	s.Disconnect()
	checkOut(t, s, "1 63, 1 83")
	tick(t, s, 14)
	checkOut(t, s, "1 83, 1 83")
	checkView(t, s, api.View{State: api.Leaving, Timer: 1, Tries: 3})
	tick(t, s, 1)
	checkView(t, s, api.View{State: api.Down})
	checkEvents(t, s, api.Connected, api.Failed)
}

func TestP14LeastAndGreatestTimers(t *testing.T) {
	for _, timer := range []int{1, api.MaxTimer} {
		for _, tries := range []int{1, api.MaxTries} {
			s := mustNew(t, config(8, 2, timer, tries, 4, 3))
			s.Connect()
			tick(t, s, timer*tries-1)
			checkView(t, s, api.View{State: api.Calling, Timer: 1, Tries: tries})
			checkOut(t, s, strings.Repeat("1 63, ", tries-1)+"1 63")
			checkEvents(t, s)
			tick(t, s, 1)
			checkView(t, s, api.View{State: api.Down})
			checkOut(t, s, "")
			checkEvents(t, s, api.Failed)
		}
	}
}

func TestP15ToldOnceAndInOrder(t *testing.T) {
	s := mustNew(t, config(8, 2, 5, 3, 4, 3))
	s.Connect()                         // 1 63
	hear(t, s, []byte{3, 47})           // 3 99
	hear(t, s, []byte{3, 83})           // 3 31
	hear(t, s, []byte{1, 115})          // Connected
	hear(t, s, []byte{3, 63})           // 3 115, Reset
	hear(t, s, []byte{1, 135, 1, 2, 3}) // Reset, 1 63
	hear(t, s, []byte{1, 31})           // Failed
	hear(t, s, []byte{3, 47})           // 3 99, Connected
	hear(t, s, []byte{3, 67})           // 3 99, Disconnected
	checkOut(t, s, "1 63, 3 99, 3 31, 3 115, 1 63, 3 99, 3 99")
	checkOut(t, s, "")
	checkEvents(t, s, api.Connected, api.Reset, api.Reset, api.Failed, api.Connected, api.Disconnected)
	checkEvents(t, s)
	// Each goes on when the other was asked.
	s.Connect()
	hear(t, s, []byte{1, 115})
	checkEvents(t, s, api.Connected)
	checkOut(t, s, "1 63")
	hear(t, s, []byte{1, 15})
	checkOut(t, s, "")
	checkEvents(t, s, api.Disconnected)
}

// Many, so that a list has grown often.
func TestP15ManyAreKept(t *testing.T) {
	s := mustNew(t, config(8, 2, 5, 3, 4, 3))
	const many = 1000
	for range many {
		hear(t, s, []byte{3, 47}, []byte{3, 83})
	}
	checkOut(t, s, strings.Repeat("3 99, 3 115, ", many-1)+"3 99, 3 115")
	checkEvents(t, s, slices.Repeat([]int{api.Connected, api.Disconnected}, many)...)
}

func TestP15CloseIsOfOne(t *testing.T) {
	a, b := connected(t)
	checkErrno(t, "P15: Close", a.Close(), api.OK)
	checkErrno(t, "P15: Close", a.Close(), api.ErrDone)
	checkErrno(t, "P8: Disconnect", b.Disconnect(), api.OK)
	checkOut(t, b, "3 83")
	checkErrno(t, "P15: Close", b.Close(), api.OK)
	checkErrno(t, "P15: Tick", b.Tick(), api.ErrDone)
	checkView(t, mustNew(t, config(8, 2, 5, 3, 4, 3)), api.View{})
}

// spoilFrames writes into all that Out gave, with the spare room.
func spoilFrames(frames [][]byte) {
	for _, f := range frames {
		spoilBytes(f)
	}
	room := frames[:cap(frames)]
	for i := range room {
		room[i] = []byte("spoilt")
	}
}

func TestP1FramesOutAreNewMemory(t *testing.T) {
	s := mustNew(t, config(8, 2, 5, 3, 4, 3))
	s.Connect()
	hear(t, s, []byte{3, 47})
	first := checkOut(t, s, "1 63, 3 99")
	tick(t, s, 5)
	spoilFrames(first)
	hear(t, s, []byte{3, 83})
	second := checkOut(t, s, "1 63, 3 31")
	hear(t, s, []byte{3, 47})
	third := checkOut(t, s, "3 99")
	spoilFrames(third)
	if !bytes.Equal(second[0], []byte{1, 63}) || !bytes.Equal(second[1], []byte{3, 31}) {
		t.Errorf("P1: two answers of Out share memory: %v", second)
	}
	// Of one answer.
	spoilBytes(second[0])
	if !bytes.Equal(second[1], []byte{3, 31}) {
		t.Errorf("P1: two frames of one answer share memory: %v", second)
	}
	spoilFrames(second)
	tick(t, s, 5)
	checkOut(t, s, "1 63")
}

func TestP1EventsAreNewMemory(t *testing.T) {
	s := mustNew(t, config(8, 2, 5, 3, 4, 3))
	hear(t, s, []byte{3, 47}, []byte{3, 47}, []byte{3, 67})
	first, _ := s.Events()
	hear(t, s, []byte{3, 47})
	room := first[:cap(first)]
	for i := range room {
		room[i] = 9
	}
	hear(t, s, []byte{3, 67})
	second, _ := s.Events()
	hear(t, s, []byte{3, 47}, []byte{3, 47})
	checkEvents(t, s, api.Connected, api.Reset)
	if !slices.Equal(second, []int{api.Connected, api.Disconnected}) {
		t.Errorf("P1: Events gave %v, want %d and %d", second, api.Connected, api.Disconnected)
	}
}

func TestP1FramesHeardAreNotWrittenInto(t *testing.T) {
	for _, text := range []string{"", "\x03", "\x03\x3f", "\x03\x53", "\x01\x73", "\x01\x1f", "\x03\x10message", "\x03\x11", "\x01\x87abc", "\x01\x87ab", "\x09abc"} {
		for _, state := range []int{api.Down, api.Calling, api.Up, api.Leaving} {
			s := stationIn(t, state)
			b := roomy(text)
			s.Hear(b)
			checkRoom(t, b, text)
		}
	}
}

// A frame may be written into as soon as it was heard.
func TestP1FramesHeardAreNotKept(t *testing.T) {
	s, other := mustNew(t, config(8, 2, 5, 3, 4, 3)), mustNew(t, config(8, 2, 5, 3, 4, 3))
	b := roomy("\x03\x3f")
	for _, text := range []string{"\x03\x3f", "\x03\x53", "\x03\x11", "\x03\x2f", "\x01\x63", "\x01\x73", "\x03\x43"} {
		b = append(b[:0], text...)
		hear(t, s, b)
		spoilBytes(b)
		hear(t, other, []byte(text))
	}
	for _, one := range []*tether.Station{s, other} {
		checkOut(t, one, "3 115, 3 115, 3 31, 3 99, 1 63, 3 99")
		checkEvents(t, one, api.Connected, api.Disconnected, api.Connected, api.Reset, api.Connected, api.Disconnected)
		checkView(t, one, api.View{})
	}
}

func TestP1StationsAreApart(t *testing.T) {
	c := config(8, 2, 5, 3, 4, 3)
	one, other := mustNew(t, c), mustNew(t, c)
	if one == other {
		t.Fatalf("P1: New gave one station twice")
	}
	one.Connect()
	checkView(t, other, api.View{})
	tick(t, other, 20)
	checkView(t, one, api.View{State: api.Calling, Timer: 5, Tries: 1})
	hear(t, other, []byte{3, 63})
	tick(t, one, 2)
	checkEvents(t, one)
	checkEvents(t, other, api.Connected)
	checkOut(t, other, "3 115")
	checkOut(t, one, "1 63")
	one.Close()
	checkView(t, other, api.View{State: api.Up})
}

func TestP1AllFramesOfTwoBytesAndThree(t *testing.T) {
	for _, modulo := range modulos {
		s := mustNew(t, config(modulo, 2, 5, 3, 4, 3))
		for first := range 256 {
			for second := range 256 {
				for _, b := range [][]byte{{byte(first)}, {byte(first), byte(second)}, {byte(first), byte(second), 0}, {byte(first), byte(second), 1, 2, 3}, {byte(first), byte(second), 1, 2, 3, 4, 5}} {
					_, want := tether.Read(modulo, b)
					checkErrno(t, fmt.Sprintf("P10: Hear(%v)", b), s.Hear(b), want)
				}
			}
		}
	}
}
