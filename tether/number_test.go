package tether_test

import (
	"fmt"
	"strings"
	"testing"

	"tether/api"
)

// numbered: what can be heard that has an NR, as a text that ends ahead of it.
var numbered = []string{
	"command I 0 ", "command I! 0 ",
	"command RR ", "command RR! ", "response RR ", "response RR! ",
	"command RNR ", "command RNR! ", "response RNR ", "response RNR! ",
	"command REJ ", "command REJ! ", "response REJ ", "response REJ! ",
}

// broken tells what is sent and shown when an NR is not good.
func broken(p *probe, text string) {
	p.t.Helper()
	if strings.HasPrefix(text, "command") && strings.Contains(text, "!") {
		p.sent("response FRMR!")
	} else {
		p.sent("response FRMR")
	}
	p.told(api.Reset)
	p.is(api.View{State: api.Broken})
}

// Each NR there is, from each VA on, with nothing, some, or a full window on its way.
func TestP11EachNR(t *testing.T) {
	for _, modulo := range modulos {
		for _, start := range []int{0, 1, 5, modulo - 2, modulo - 1} {
			for _, onTheWay := range []int{0, 1, 3, 7} {
				for nr := range modulo {
					for _, text := range numbered {
						count := (nr - start + modulo) % modulo
						if count > 12 && count < modulo-4 && count%20 != 0 {
							continue
						}
						what := fmt.Sprintf("P11: modulo %d, %d on the way from %d on: %s%d", modulo, onTheWay, start, text, nr)
						p := up(t, what, config(modulo, 7, 5, 4, 2, ours))
						p.moveOn(start, 2)
						for range onTheWay {
							p.sends("z")
						}
						p.s.Out()
						p.hears(fmt.Sprint(text, nr))
						if count > onTheWay {
							broken(p, text)
							continue
						}
						p.told()
						if v := p.view(); v.State != api.Up || v.VA != nr || v.Queued != onTheWay-count {
							t.Errorf("%s: View() = %+v, want VA %d and Queued %d", what, v, nr, onTheWay-count)
						}
					}
				}
			}
		}
	}
}

// What waits in the queue, and was never sent, can't be acknowledged.
func TestP11WhatWasNotSent(t *testing.T) {
	for _, text := range numbered {
		for nr := range 8 {
			p := up(t, fmt.Sprintf("P11: %s%d", text, nr), small(8))
			p.sends(letters("abcdef")...)
			p.s.Out()
			p.hears(fmt.Sprint(text, nr))
			if nr > 3 {
				broken(p, text)
				continue
			}
			p.told()
			if v := p.view(); v.VA != nr || v.Queued != 6-nr {
				t.Errorf("%s: View() = %+v", p.what, v)
			}
		}
	}
}

// What was sent may be acknowledged when VS was taken back, too.
func TestP11BehindVSThatWasTakenBack(t *testing.T) {
	for nr := range 8 {
		p := up(t, fmt.Sprintf("P11: VS taken back, NR %d", nr), small(8))
		p.moveOn(6, 0)
		p.sends(letters("abcd")...)
		p.ticks(5)
		p.hears("response RNR! 6")
		p.s.Out()
		p.is(api.View{State: api.Up, VS: 6, VA: 6, Queued: 4, Timer: 5, Tries: 1, PeerBusy: true})
		p.ticks(1)
		p.hears(fmt.Sprint("response RNR ", nr))
		count := (nr - 6 + 8) % 8
		if count > 3 {
			broken(p, "response RNR")
			continue
		}
		timer := 5
		if count == 0 {
			timer = 4
		}
		p.is(api.View{State: api.Up, VS: nr, VA: nr, Queued: 4 - count, Timer: timer, Tries: 1, PeerBusy: true})
		p.sent()
		p.hears(fmt.Sprint("response RR ", nr))
		var want []string
		for i := count; i < min(4, count+3); i++ {
			want = append(want, fmt.Sprint("command I ", (6+i)%8, 0, " ", string("abcd"[i])))
		}
		p.sent(want...)
	}
}

// A number that was acknowledged already is not good, one that was acknowledged last is.
func TestP11BehindVA(t *testing.T) {
	for _, modulo := range modulos {
		for _, text := range numbered {
			p := up(t, "P11: behind VA: "+text, config(modulo, 7, 5, 4, 2, ours))
			p.sends(letters("abc")...)
			p.hears("response RR 2", "response RR 2")
			p.s.Out()
			p.is(api.View{State: api.Up, VS: 3, VA: 2, Queued: 1, Timer: 5, Tries: 1})
			p.told()
			p.hears(text + "1")
			broken(p, text)
		}
	}
}

// Nothing but the NR is looked at, if it is not good.
func TestP11NotGoodComesFirst(t *testing.T) {
	for _, text := range []string{"command I 0 1 x", "command I! 4 1 x", "command RNR! 1", "response REJ! 1"} {
		p := up(t, "P11: "+text, small(8))
		p.hears("command I 0 0 a")
		p.busy(true)
		p.s.Out()
		p.hears(text)
		if strings.HasPrefix(text, "command") && strings.Contains(text, "!") {
			p.sent("response FRMR!")
		} else {
			p.sent("response FRMR")
		}
		p.is(api.View{State: api.Broken, Busy: true, Came: 1})
		p.takes("a")
		p.sent()
		p.ticks(100)
		p.sent()
	}
}

func TestP10P11OutOfBroken(t *testing.T) {
	for _, k := range []struct {
		do    func(p *probe)
		sent  []string
		event int
		view  api.View
	}{
		{func(p *probe) { p.hears("command SABM") }, []string{"response UA"}, api.Reset, api.View{State: api.Up}},
		{func(p *probe) { p.hears("command SABM!") }, []string{"response UA!"}, api.Reset, api.View{State: api.Up}},
		{func(p *probe) { p.hears("command DISC!") }, []string{"response UA!"}, api.Disconnected, api.View{}},
		{func(p *probe) { p.hears("response DM") }, nil, api.Disconnected, api.View{}},
		{func(p *probe) { p.s.Connect() }, []string{"command SABM!"}, 0, api.View{State: api.Calling, Timer: 5, Tries: 1}},
		{func(p *probe) { p.s.Disconnect() }, []string{"command DISC!"}, 0, api.View{State: api.Leaving, Timer: 5, Tries: 1}},
		{func(p *probe) { p.hears("command I! 3 3 x", "command RR 3", "command RNR! 0", "command REJ 7") }, []string{"response FRMR!", "response FRMR", "response FRMR!", "response FRMR"}, 0, api.View{State: api.Broken}},
		{func(p *probe) {
			p.hears("response RR! 3", "response RNR 0", "response REJ! 0", "response UA!", "response FRMR!")
		}, nil, 0, api.View{State: api.Broken}},
		{func(p *probe) { p.ticks(1000) }, nil, 0, api.View{State: api.Broken}},
	} {
		for _, modulo := range modulos {
			p := up(t, fmt.Sprintf("P10: Broken, modulo %d, then %v", modulo, k.sent), small(modulo))
			p.sends(letters("abcd")...)
			p.s.Out()
			p.hears("response RR 4")
			broken(p, "response RR 4")
			k.do(p)
			p.sent(k.sent...)
			if k.event == 0 {
				p.told()
			} else {
				p.told(k.event)
			}
			p.is(k.view)
		}
	}
}

// The three befores of what is heard: a, b, c of a, b, c, d, e are on their way, numbered 6, 7 and 0; a tick has gone by.
const (
	plain   = "not polling"
	polling = "polling"
	busied  = "the peer busy"
)

func before(t *testing.T, what, kind string) *probe {
	t.Helper()
	p := up(t, what+", "+kind, small(8))
	p.moveOn(6, 3)
	p.sends(letters("abcde")...)
	switch kind {
	case polling:
		p.ticks(5)
	case busied:
		p.hears("response RNR 6")
	}
	p.ticks(1)
	p.s.Out()
	return p
}

// heard: what a frame does: what is sent, and what is shown then.
type heard struct {
	before, text string
	sent         []string
	view         api.View
}

func checkHeard(t *testing.T, promise string, cases []heard) {
	t.Helper()
	for _, k := range cases {
		p := before(t, promise+": "+k.text, k.before)
		p.hears(k.text)
		k.view.State = api.Up
		p.sent(k.sent...)
		p.told()
		p.is(k.view)
	}
}

// again tells a message as it is sent with VR 3.
func again(ns int, info string) string { return fmt.Sprintf("command I %d 3 %s", ns, info) }

// Without Poll, a frame is the same as a command and as a response.
func TestP12WithoutPoll(t *testing.T) {
	for _, role := range []string{"command ", "response "} {
		checkHeard(t, "P12", []heard{
			{plain, role + "RR 6", nil, api.View{VS: 1, VA: 6, VR: 3, Timer: 4, Tries: 1, Queued: 5}},
			{plain, role + "RR 7", []string{again(1, "d")}, api.View{VS: 2, VA: 7, VR: 3, Timer: 5, Tries: 1, Queued: 4}},
			{plain, role + "RR 1", []string{again(1, "d"), again(2, "e")}, api.View{VS: 3, VA: 1, VR: 3, Timer: 5, Tries: 1, Queued: 2}},
			{plain, role + "RNR 6", nil, api.View{VS: 1, VA: 6, VR: 3, Timer: 4, Tries: 1, Queued: 5, PeerBusy: true}},
			{plain, role + "RNR 7", nil, api.View{VS: 1, VA: 7, VR: 3, Timer: 5, Tries: 1, Queued: 4, PeerBusy: true}},
			{plain, role + "RNR 1", nil, api.View{VS: 1, VA: 1, VR: 3, Timer: 5, Tries: 1, Queued: 2, PeerBusy: true}},
			{plain, role + "REJ 6", []string{again(6, "a"), again(7, "b"), again(0, "c")}, api.View{VS: 1, VA: 6, VR: 3, Timer: 4, Tries: 1, Queued: 5}},
			{plain, role + "REJ 7", []string{again(7, "b"), again(0, "c"), again(1, "d")}, api.View{VS: 2, VA: 7, VR: 3, Timer: 5, Tries: 1, Queued: 4}},
			{plain, role + "REJ 1", []string{again(1, "d"), again(2, "e")}, api.View{VS: 3, VA: 1, VR: 3, Timer: 5, Tries: 1, Queued: 2}},

			{busied, role + "RR 6", nil, api.View{VS: 1, VA: 6, VR: 3, Timer: 4, Tries: 1, Queued: 5}},
			{busied, role + "RR 0", []string{again(1, "d"), again(2, "e")}, api.View{VS: 3, VA: 0, VR: 3, Timer: 5, Tries: 1, Queued: 3}},
			{busied, role + "RNR 0", nil, api.View{VS: 1, VA: 0, VR: 3, Timer: 5, Tries: 1, Queued: 3, PeerBusy: true}},
			{busied, role + "REJ 7", []string{again(7, "b"), again(0, "c"), again(1, "d")}, api.View{VS: 2, VA: 7, VR: 3, Timer: 5, Tries: 1, Queued: 4}},

			{polling, role + "RR 6", nil, api.View{VS: 1, VA: 6, VR: 3, Timer: 4, Tries: 2, Polling: true, Queued: 5}},
			{polling, role + "RR 7", nil, api.View{VS: 1, VA: 7, VR: 3, Timer: 4, Tries: 2, Polling: true, Queued: 4}},
			{polling, role + "RR 1", nil, api.View{VS: 1, VA: 1, VR: 3, Timer: 4, Tries: 2, Polling: true, Queued: 2}},
			{polling, role + "RNR 7", nil, api.View{VS: 1, VA: 7, VR: 3, Timer: 4, Tries: 2, Polling: true, Queued: 4, PeerBusy: true}},
			{polling, role + "REJ 6", nil, api.View{VS: 6, VA: 6, VR: 3, Timer: 4, Tries: 2, Polling: true, Queued: 5}},
			{polling, role + "REJ 7", nil, api.View{VS: 7, VA: 7, VR: 3, Timer: 4, Tries: 2, Polling: true, Queued: 4}},
		})
	}
}

// Poll of a command is answered, ahead of what is pumped; it ends no polling.
func TestP12CommandWithPoll(t *testing.T) {
	const answer = "response RR! 3"
	checkHeard(t, "P12", []heard{
		{plain, "command RR! 6", []string{answer}, api.View{VS: 1, VA: 6, VR: 3, Timer: 4, Tries: 1, Queued: 5}},
		{plain, "command RR! 7", []string{answer, again(1, "d")}, api.View{VS: 2, VA: 7, VR: 3, Timer: 5, Tries: 1, Queued: 4}},
		{plain, "command RNR! 7", []string{answer}, api.View{VS: 1, VA: 7, VR: 3, Timer: 5, Tries: 1, Queued: 4, PeerBusy: true}},
		{plain, "command REJ! 7", []string{answer, again(7, "b"), again(0, "c"), again(1, "d")}, api.View{VS: 2, VA: 7, VR: 3, Timer: 5, Tries: 1, Queued: 4}},
		{busied, "command RR! 7", []string{answer, again(1, "d")}, api.View{VS: 2, VA: 7, VR: 3, Timer: 5, Tries: 1, Queued: 4}},
		{busied, "command RNR! 6", []string{answer}, api.View{VS: 1, VA: 6, VR: 3, Timer: 4, Tries: 1, Queued: 5, PeerBusy: true}},
		{polling, "command RR! 7", []string{answer}, api.View{VS: 1, VA: 7, VR: 3, Timer: 4, Tries: 2, Polling: true, Queued: 4}},
		{polling, "command RNR! 7", []string{answer}, api.View{VS: 1, VA: 7, VR: 3, Timer: 4, Tries: 2, Polling: true, Queued: 4, PeerBusy: true}},
		{polling, "command REJ! 7", []string{answer}, api.View{VS: 7, VA: 7, VR: 3, Timer: 4, Tries: 2, Polling: true, Queued: 4}},
	})
}

// Poll of a response ends polling, and is nothing otherwise.
func TestP12ResponseWithPoll(t *testing.T) {
	checkHeard(t, "P12", []heard{
		{plain, "response RR! 6", nil, api.View{VS: 1, VA: 6, VR: 3, Timer: 4, Tries: 1, Queued: 5}},
		{plain, "response RR! 7", []string{again(1, "d")}, api.View{VS: 2, VA: 7, VR: 3, Timer: 5, Tries: 1, Queued: 4}},
		{plain, "response RNR! 6", nil, api.View{VS: 1, VA: 6, VR: 3, Timer: 4, Tries: 1, Queued: 5, PeerBusy: true}},
		{plain, "response REJ! 7", []string{again(7, "b"), again(0, "c"), again(1, "d")}, api.View{VS: 2, VA: 7, VR: 3, Timer: 5, Tries: 1, Queued: 4}},
		{busied, "response RR! 6", nil, api.View{VS: 1, VA: 6, VR: 3, Timer: 4, Tries: 1, Queued: 5}},

		{polling, "response RR! 6", []string{again(6, "a"), again(7, "b"), again(0, "c")}, api.View{VS: 1, VA: 6, VR: 3, Timer: 5, Tries: 1, Queued: 5}},
		{polling, "response RR! 7", []string{again(7, "b"), again(0, "c"), again(1, "d")}, api.View{VS: 2, VA: 7, VR: 3, Timer: 5, Tries: 1, Queued: 4}},
		{polling, "response RR! 1", []string{again(1, "d"), again(2, "e")}, api.View{VS: 3, VA: 1, VR: 3, Timer: 5, Tries: 1, Queued: 2}},
		{polling, "response RNR! 6", nil, api.View{VS: 6, VA: 6, VR: 3, Timer: 5, Tries: 1, Queued: 5, PeerBusy: true}},
		{polling, "response RNR! 7", nil, api.View{VS: 7, VA: 7, VR: 3, Timer: 5, Tries: 1, Queued: 4, PeerBusy: true}},
		{polling, "response RNR! 1", nil, api.View{VS: 1, VA: 1, VR: 3, Timer: 5, Tries: 1, Queued: 2, PeerBusy: true}},
		{polling, "response REJ! 6", []string{again(6, "a"), again(7, "b"), again(0, "c")}, api.View{VS: 1, VA: 6, VR: 3, Timer: 5, Tries: 1, Queued: 5}},
		{polling, "response REJ! 0", []string{again(0, "c"), again(1, "d"), again(2, "e")}, api.View{VS: 3, VA: 0, VR: 3, Timer: 5, Tries: 1, Queued: 3}},
	})
}

// The answer to Poll says whether it is held up, by Busy or by Room.
func TestP12AnswerWhenHeldUp(t *testing.T) {
	for _, text := range []string{"command RR! 0", "command RNR! 0", "command REJ! 0"} {
		p := up(t, "P12: busy: "+text, small(8))
		p.busy(true)
		p.s.Out()
		p.hears(text)
		p.sent("response RNR! 0")

		p = up(t, "P12: one more may come: "+text, small(8))
		p.hears("command I 0 0 a")
		p.s.Out()
		p.hears(text)
		p.sent("response RR! 1")

		p = up(t, "P12: no room: "+text, small(8))
		p.hears("command I 0 0 a", "command I 1 0 b")
		p.s.Out()
		p.hears(text)
		p.sent("response RNR! 2")
	}
}

// All is acknowledged: the timer is off, if the peer is not busy; the tries stay as they were.
func TestP11P12TimerWhenAllIsAcknowledged(t *testing.T) {
	for _, k := range []struct {
		text    string
		polling bool
		view    api.View
	}{
		{"response RR 2", false, api.View{Tries: 1}},
		{"command RR 2", false, api.View{Tries: 1}},
		{"command REJ 2", false, api.View{Tries: 1}},
		{"command I 3 2", false, api.View{Tries: 1}},
		{"response RNR 2", false, api.View{Timer: 5, Tries: 1, PeerBusy: true}},
		{"response RR 2", true, api.View{Timer: 3, Tries: 3, Polling: true}},
		{"command REJ 2", true, api.View{Timer: 3, Tries: 3, Polling: true}},
		{"command I 3 2", true, api.View{Timer: 3, Tries: 3, Polling: true}},
		{"response RR! 2", true, api.View{Tries: 3}},
		{"response REJ! 2", true, api.View{Tries: 3}},
		{"response RNR! 2", true, api.View{Timer: 5, Tries: 1, PeerBusy: true}},
	} {
		p := up(t, fmt.Sprintf("P12: all acknowledged, polling %v: %s", k.polling, k.text), small(8))
		p.sends("a", "b")
		if k.polling {
			p.ticks(10)
		}
		p.ticks(2)
		p.s.Out()
		p.hears(k.text)
		k.view.State, k.view.VS, k.view.VA = api.Up, 2, 2
		p.is(k.view)
		p.ticks(2) // a timer that is off stays off
		if k.view.Timer > 0 {
			k.view.Timer -= 2
		}
		p.is(k.view)
	}
}

// A peer that is not busy any more is waited for no longer.
func TestP12TimerOfAPeerThatWasBusy(t *testing.T) {
	p := up(t, "P12", small(8))
	p.hears("command RNR 0")
	p.ticks(2)
	p.is(api.View{State: api.Up, Timer: 3, Tries: 1, PeerBusy: true})
	p.hears("response RNR 0")
	p.is(api.View{State: api.Up, Timer: 3, Tries: 1, PeerBusy: true})
	p.hears("command RR 0")
	p.is(api.View{State: api.Up, Tries: 1})
	p.hears("response RNR 0")
	p.ticks(1)
	p.hears("response REJ 0")
	p.is(api.View{State: api.Up, Tries: 1})
	p.sent()
	// I says nothing of it.
	p.hears("response RNR 0", "command I 0 0 x")
	p.sends("a")
	p.sent("response RR 1")
	p.is(api.View{State: api.Up, VR: 1, Timer: 5, Tries: 1, PeerBusy: true, Queued: 1, Came: 1})
}

// As long as the peer is busy it is asked, and nothing fails as long as it answers.
func TestP12P14PeerThatStaysBusy(t *testing.T) {
	p := up(t, "P12", small(8))
	p.sends("a")
	p.hears("response RNR 0")
	p.s.Out()
	for range 20 {
		p.ticks(5)
		p.sent("command RR! 0")
		p.is(api.View{State: api.Up, VS: p.view().VS, Timer: 5, Tries: 2, Polling: true, PeerBusy: true, Queued: 1})
		p.hears("response RNR! 0")
		p.sent()
		p.is(api.View{State: api.Up, Timer: 5, Tries: 1, PeerBusy: true, Queued: 1})
	}
	p.hears("response RR 0")
	p.sent("command I 0 0 a")
	p.told()
}
