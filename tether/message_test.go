package tether_test

import (
	"fmt"
	"strings"
	"testing"

	"tether/api"
	"tether/tether"
)

var states = []int{api.Down, api.Calling, api.Up, api.Leaving, api.Broken}

// The example of two stations, whole.
func TestP9P11P12P13ExampleOfTwo(t *testing.T) {
	a, b := connected(t)
	for _, info := range []string{"a", "b", "c"} {
		checkErrno(t, "P9: Send", a.Send([]byte(info)), api.OK)
	}
	checkView(t, a, api.View{State: api.Up, VS: 2, Queued: 3, Timer: 5, Tries: 1})
	first := checkOut(t, a, "1 0 97, 1 2 98")
	hear(t, b, first[1])
	hear(t, a, checkOut(t, b, "1 9")...)
	again := checkOut(t, a, "1 0 97, 1 2 98")
	checkView(t, a, api.View{State: api.Up, VS: 2, Queued: 3, Timer: 5, Tries: 1})
	hear(t, b, again...)
	answers := checkOut(t, b, "1 33, 1 65")
	messages, e := b.Taken()
	if e != api.OK || len(messages) != 2 || string(messages[0]) != "a" || string(messages[1]) != "b" {
		t.Errorf("P9: Taken() = %q, %d, want a and b", messages, e)
	}
	hear(t, a, answers[0])
	checkOut(t, a, "1 4 99")
	hear(t, a, answers[1])
	checkOut(t, a, "")
	checkView(t, a, api.View{State: api.Up, VS: 3, VA: 2, Queued: 1, Timer: 5, Tries: 1})
	checkEvents(t, a)
	checkEvents(t, b)
}

func TestP9InEachState(t *testing.T) {
	for _, state := range states {
		if state == api.Up {
			continue
		}
		s := stationIn(t, state)
		s.Out()
		s.Events()
		view, _ := s.View()
		for _, length := range []int{0, 1, api.MaxInfo, api.MaxInfo + 1, 1000} {
			checkErrno(t, fmt.Sprintf("P9: Send of %d bytes in state %d", length, state), s.Send(make([]byte, length)), api.ErrState)
		}
		checkView(t, s, view)
		for _, on := range []bool{false, true, true, false, false, true} {
			checkErrno(t, fmt.Sprintf("P9: Busy in state %d", state), s.Busy(on), api.OK)
			view.Busy = on
			checkView(t, s, view)
		}
		if messages, e := s.Taken(); len(messages) != 0 || e != api.OK {
			t.Errorf("P9: Taken() in state %d = %q, %d", state, messages, e)
		}
		checkView(t, s, view)
		checkOut(t, s, "")
		checkEvents(t, s)
	}
}

// leaders lead a station that is Up to another state, or let it start over.
var leaders = []struct {
	name    string
	lead    func(p *probe)
	then    api.View
	answers []string // what is sent to SABM, and to I behind it, by a station that is held up
}{
	{"Down", func(p *probe) { p.hears("command DISC") }, api.View{State: api.Down}, []string{"response UA", "response RNR 0"}},
	{"Down by DM", func(p *probe) { p.hears("response DM") }, api.View{State: api.Down}, []string{"response UA", "response RNR 0"}},
	{"Calling", func(p *probe) { p.hears("response UA") }, api.View{State: api.Calling, Timer: 5, Tries: 1}, []string{"response UA"}},
	{"Calling by FRMR", func(p *probe) { p.hears("response FRMR") }, api.View{State: api.Calling, Timer: 5, Tries: 1}, []string{"response UA"}},
	{"Up once more", func(p *probe) { p.hears("command SABM") }, api.View{State: api.Up}, []string{"response UA", "response RNR 0"}},
	{"Leaving", func(p *probe) { p.s.Disconnect() }, api.View{State: api.Leaving, Timer: 5, Tries: 1}, []string{"response DM"}},
	{"Broken", func(p *probe) { p.hears("response RR 7") }, api.View{State: api.Broken}, []string{"response UA", "response RNR 0"}},
	{"failed", func(p *probe) { p.ticks(20) }, api.View{State: api.Down}, []string{"response UA", "response RNR 0"}},
}

// laden gives a station that has something of everything: e was sent and f waits to be; a and b came; it is busy, and so is the peer; it polls, and has rejected.
func laden(t *testing.T, what string) *probe {
	t.Helper()
	c := small(8)
	c.Room = 4
	p := up(t, what, c)
	p.moveOn(3, 0)
	p.hears("command I 0 3 a", "command I 1 3 b", "command I 5 3 z")
	p.sends("d", "e")
	p.ticks(5)
	p.hears("response RNR 4")
	p.sends("f")
	p.busy(true)
	p.sent("response RR 1", "response RR 2", "response REJ 2", "command I 3 2 d", "command I 4 2 e", "command RR! 2", "response RNR 2")
	p.is(api.View{State: api.Up, VS: 5, VA: 4, VR: 2, Timer: 5, Tries: 2, Polling: true, PeerBusy: true, Busy: true, Queued: 2, Came: 2})
	return p
}

func TestP9WhatStaysWhenItStartsOver(t *testing.T) {
	for _, k := range leaders {
		p := laden(t, "P9: "+k.name)
		k.lead(p)
		k.then.Busy, k.then.Came = true, 2
		p.is(k.then)
		p.s.Out()
		p.hears("command SABM", "command I 0 0 c")
		p.sent(k.answers...)
		p.takes("a", "b")
		p.sent() // it is busy still
		p.takes()
		if p.view().State != api.Up {
			continue
		}
		// What it had rejected, the numbers and the queue are forgotten.
		p.busy(false)
		p.sent("response RR 0")
		p.hears("command I 1 0 d", "command I 0 0 c")
		p.sent("response REJ 0", "response RR 1")
		p.takes("c")
		p.sends("g")
		p.sent("command I 0 1 g")
		p.hears("response RR 1")
		p.is(api.View{State: api.Up, VS: 1, VA: 1, VR: 1, Tries: 1})
	}
}

// A message that came is handed over in whatever state, once.
func TestP9TakenInEachState(t *testing.T) {
	for _, k := range leaders {
		p := up(t, "P9: "+k.name, small(8))
		p.hears("command I 0 0 a", "command I 1 0 b", "command I 2 0 c")
		p.sent("response RR 1", "response RNR 2", "response RNR 2")
		if k.name == "failed" {
			p.sends("x")
		}
		k.lead(p)
		p.s.Out()
		k.then.Came = 2
		if k.then.State == api.Up {
			continue
		}
		p.is(k.then)
		p.busy(true)
		p.busy(false)
		p.takes("a", "b")
		p.takes()
		p.sent() // it is not Up
		k.then.Came = 0
		p.is(k.then)
	}
}

func TestP9WhichErrorComesFirst(t *testing.T) {
	long, longest := make([]byte, api.MaxInfo+1), make([]byte, 1<<16)
	p := up(t, "P9", config(8, 7, 5, 3, 4, ours))
	for _, info := range [][]byte{long, longest} {
		checkErrno(t, "P9: Send of too much", p.s.Send(info), api.ErrArg)
	}
	p.is(api.View{State: api.Up})
	for i := range api.MaxQueue {
		p.sends(string(rune('a' + i)))
	}
	p.s.Out()
	view := p.view()
	for _, info := range [][]byte{long, longest} {
		checkErrno(t, "P9: Send of too much, the queue full", p.s.Send(info), api.ErrArg)
	}
	for _, info := range [][]byte{nil, {}, {1}, make([]byte, api.MaxInfo)} {
		checkErrno(t, "P9: Send, the queue full", p.s.Send(info), api.ErrFull)
	}
	p.is(view)
	p.sent()
	p.told()
	p.s.Close()
	checkErrno(t, "P9: Send of too much, closed", p.s.Send(long), api.ErrDone)
	s := stationIn(t, api.Broken)
	checkErrno(t, "P9: Send of too much, Broken", s.Send(long), api.ErrState)
}

func TestP9BoundsOfAnInfo(t *testing.T) {
	for _, modulo := range modulos {
		for length := range 200 {
			p := up(t, fmt.Sprintf("P9: %d bytes", length), small(modulo))
			info := strings.Repeat("x", length)
			if length > 32 {
				checkErrno(t, p.what, p.s.Send([]byte(info)), api.ErrArg)
				p.is(api.View{State: api.Up})
				p.sent()
				continue
			}
			p.sends(info)
			p.sent("command I 0 0 " + info)
			p.hears("command I 0 0 " + info)
			p.takes(info)
			p.is(api.View{State: api.Up, VS: 1, VR: 1, Queued: 1, Timer: 5, Tries: 1})
		}
	}
}

func TestP9BoundsOfTheQueue(t *testing.T) {
	for _, modulo := range modulos {
		for window := 1; window <= min(modulo-1, 15); window++ {
			p := up(t, fmt.Sprintf("P9: modulo %d, window %d", modulo, window), config(modulo, window, 5, 3, 4, ours))
			for i := range 20 {
				p.sends(fmt.Sprint(i))
				p.is(api.View{State: api.Up, VS: min(i+1, window), Queued: i + 1, Timer: 5, Tries: 1})
			}
			checkErrno(t, p.what+": Send", p.s.Send([]byte("20")), api.ErrFull)
			p.s.Out()
			p.hears("response RR 1")
			p.sent(fmt.Sprint("command I ", window, 0, " ", window))
			p.sends("20")
			p.sent()
			checkErrno(t, p.what+": Send", p.s.Send([]byte("21")), api.ErrFull)
			// All go, in their order.
			for i := 1; i < 21; i++ {
				p.hears(fmt.Sprint("response RR ", (i+1)%modulo))
				if next := i + window; next <= 20 {
					p.sent(fmt.Sprint("command I ", next%modulo, 0, " ", next))
				}
			}
			p.sent()
			p.is(api.View{State: api.Up, VS: 21 % modulo, VA: 21 % modulo, Tries: 1})
		}
	}
}

// The window, one short of it and full, at each number, so that these go round.
func TestP9Window(t *testing.T) {
	for _, modulo := range modulos {
		for window := 1; window <= min(modulo-1, 15); window++ {
			for start := range modulo {
				if modulo == 128 && start%16 != 1 && start < 112 {
					continue
				}
				p := up(t, fmt.Sprintf("P9: modulo %d, window %d, from %d on", modulo, window, start), config(modulo, window, 5, 3, 4, ours))
				p.moveOn(start, 2)
				for i := range window {
					p.sends(fmt.Sprint(i))
					p.sent(fmt.Sprint("command I ", (start+i)%modulo, 2, " ", i))
				}
				p.sends("more", "and", "more")
				p.sent()
				p.is(api.View{State: api.Up, VS: (start + window) % modulo, VA: start, VR: 2, Queued: window + 3, Timer: 5, Tries: 1})
				p.hears(fmt.Sprint("response RR ", (start+1)%modulo))
				p.sent(fmt.Sprint("command I ", (start+window)%modulo, 2, " more"))
				p.hears(fmt.Sprint("response REJ ", (start+window)%modulo))
				p.s.Out()
				p.is(api.View{State: api.Up, VS: (start + window + min(window, 3)) % modulo, VA: (start + window) % modulo, VR: 2, Queued: 3, Timer: 5, Tries: 1})
			}
		}
	}
}

func TestP9SendThatWaits(t *testing.T) {
	p := up(t, "P9: the peer is busy", small(8))
	p.hears("response RNR 0")
	p.is(api.View{State: api.Up, Timer: 5, Tries: 1, PeerBusy: true})
	p.sends(letters("abcd")...)
	p.sent()
	p.is(api.View{State: api.Up, Timer: 5, Tries: 1, PeerBusy: true, Queued: 4})
	p.hears("response RR 0")
	p.sent("command I 0 0 a", "command I 1 0 b", "command I 2 0 c")
	p.is(api.View{State: api.Up, VS: 3, Timer: 5, Tries: 1, Queued: 4})

	p = up(t, "P9: it is polling", small(8))
	p.sends("a")
	p.ticks(6)
	p.sends("b")
	p.sent("command I 0 0 a", "command RR! 0")
	p.is(api.View{State: api.Up, VS: 1, Timer: 4, Tries: 2, Polling: true, Queued: 2})
	p.hears("response RR! 1")
	p.sent("command I 1 0 b")
	p.is(api.View{State: api.Up, VS: 2, VA: 1, Timer: 5, Tries: 1, Queued: 1})

	p = up(t, "P9: it is held up", small(8))
	p.busy(true)
	p.sends("a")
	p.sent("response RNR 0", "command I 0 0 a") // what goes does not hang on what may come
}

// A message that is sent leaves a timer that runs as it is.
func TestP9TimerOfSend(t *testing.T) {
	p := up(t, "P9", small(8))
	p.sends("a")
	p.is(api.View{State: api.Up, VS: 1, Timer: 5, Tries: 1, Queued: 1})
	p.ticks(3)
	p.sends("b", "c", "d")
	p.is(api.View{State: api.Up, VS: 3, Timer: 2, Tries: 1, Queued: 4})
	p.hears("response RNR 0")
	p.ticks(1)
	p.sends("e")
	p.is(api.View{State: api.Up, VS: 3, Timer: 1, Tries: 1, Queued: 5, PeerBusy: true})
}

func TestP9HeldUpByBusy(t *testing.T) {
	for _, modulo := range modulos {
		p := up(t, fmt.Sprintf("P9: modulo %d", modulo), small(modulo))
		p.moveOn(1, 5)
		p.busy(false)
		p.sent()
		p.busy(true)
		p.sent("response RNR 5")
		p.busy(true)
		p.sent()
		p.is(api.View{State: api.Up, VS: 1, VA: 1, VR: 5, Tries: 1, Busy: true})
		p.takes()
		p.sent()
		p.busy(false)
		p.sent("response RR 5")
		p.busy(false)
		p.sent()
		p.is(api.View{State: api.Up, VS: 1, VA: 1, VR: 5, Tries: 1})
	}
}

func TestP9HeldUpByRoom(t *testing.T) {
	for room := 1; room <= api.MaxRoom; room++ {
		p := up(t, fmt.Sprintf("P9: room %d", room), config(128, 3, 5, 4, room, ours))
		var came []string
		for i := range room {
			p.sent()
			p.busy(true)
			p.busy(false)
			p.sent(fmt.Sprint("response RNR ", i), fmt.Sprint("response RR ", i))
			p.hears(fmt.Sprint("command I ", i, 0, " ", i))
			came = append(came, fmt.Sprint(i))
			if i < room-1 {
				p.sent(fmt.Sprint("response RR ", i+1))
			}
		}
		p.sent(fmt.Sprint("response RNR ", room))
		p.is(api.View{State: api.Up, VR: room, Came: room})
		// It is held up already, and stays so.
		p.busy(true)
		p.busy(false)
		p.sent()
		p.takes(came...)
		p.sent(fmt.Sprint("response RR ", room))
		p.takes()
		p.sent()
		p.is(api.View{State: api.Up, VR: room})
	}
}

func TestP9HeldUpByBoth(t *testing.T) {
	p := up(t, "P9: Taken, then not busy", small(8))
	p.hears("command I 0 0 a", "command I 1 0 b")
	p.busy(true)
	p.sent("response RR 1", "response RNR 2")
	p.takes("a", "b")
	p.sent()
	p.busy(false)
	p.sent("response RR 2")

	p = up(t, "P9: not busy, then Taken", small(8))
	p.hears("command I 0 0 a", "command I 1 0 b")
	p.busy(true)
	p.busy(false)
	p.sent("response RR 1", "response RNR 2")
	p.takes("a", "b")
	p.sent("response RR 2")

	p = up(t, "P9: Taken of fewer than there is room for", small(8))
	p.hears("command I 0 0 a")
	p.sent("response RR 1")
	p.takes("a")
	p.sent()
}

// Messages of nothing are messages.
func TestP9EmptyMessages(t *testing.T) {
	p := up(t, "P9", small(8))
	checkErrno(t, "P9: Send of nil", p.s.Send(nil), api.OK)
	checkErrno(t, "P9: Send of nothing", p.s.Send([]byte{}), api.OK)
	p.sent("command I 0 0", "command I 1 0")
	p.hears("command I 0 0", "command I 1 0")
	p.sent("response RR 1", "response RNR 2")
	p.is(api.View{State: api.Up, VS: 2, VR: 2, Queued: 2, Came: 2, Timer: 5, Tries: 1})
	p.takes("", "")
}

// A frame that is on its way when something changes stays as it was sent.
func TestP9SentStaysAsItIs(t *testing.T) {
	p := up(t, "P9", small(8))
	p.sends("a")
	p.hears("command I 0 0 x")
	p.sends("b")
	p.hears("command SABM!")
	p.sends("c")
	p.sent("command I 0 0 a", "response RR 1", "command I 1 1 b", "response UA!", "command I 0 0 c")
	p.told(api.Reset)
	p.takes("x")
}

// closedWith gives a closed station with messages that came and that wait.
func closedWith(t *testing.T) *tether.Station {
	t.Helper()
	p := up(t, "P8", small(8))
	p.sends(letters("abcde")...)
	p.hears("command I 0 0 x", "command I 1 0 y")
	checkErrno(t, "P15: Close", p.s.Close(), api.OK)
	return p.s
}

func TestP8ErrDoneGoesAhead(t *testing.T) {
	s := closedWith(t)
	for range 2 {
		checkErrno(t, "P9: Send", s.Send([]byte("x")), api.ErrDone)
		checkErrno(t, "P9: Send of too much", s.Send(make([]byte, 100)), api.ErrDone)
		checkErrno(t, "P9: Busy", s.Busy(true), api.ErrDone)
		checkErrno(t, "P11: Hear", s.Hear([]byte{1, 33}), api.ErrDone)
		checkErrno(t, "P11: Hear of nothing", s.Hear(nil), api.ErrDone)
		checkErrno(t, "P14: Tick", s.Tick(), api.ErrDone)
		if messages, e := s.Taken(); messages != nil || e != api.ErrDone {
			t.Errorf("P9: Taken() = %q, %d", messages, e)
		}
	}
}
