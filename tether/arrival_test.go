package tether_test

import (
	"fmt"
	"testing"

	"tether/api"
)

// What can be ahead of an I. (A station without room has not rejected: what fills the room came in its turn.)
const (
	ready        = "ready"
	hasRejected  = "rejected"
	busyThen     = "busy"
	rejectedBusy = "rejected, then busy"
	noRoom       = "no room"
)

// atThree gives a station whose VR is 3, with room for two messages.
func atThree(t *testing.T, modulo int, ahead, text string) *probe {
	t.Helper()
	p := up(t, fmt.Sprintf("P13: modulo %d, %s: %s", modulo, ahead, text), small(modulo))
	if ahead == noRoom {
		p.moveOn(0, 1)
		p.hears("command I 1 0 v", "command I 2 0 w")
	}
	p.moveOn(0, 3)
	if ahead == hasRejected || ahead == rejectedBusy {
		p.hears("command I 5 0 early")
		p.sent("response REJ 3")
	}
	if ahead == busyThen || ahead == rejectedBusy {
		p.busy(true)
	}
	p.s.Out()
	return p
}

func TestP13EachArrival(t *testing.T) {
	for _, k := range []struct {
		ahead, text, sent string
		view              api.View
	}{
		{ready, "command I 3 0 x", "response RR 4", api.View{VR: 4, Came: 1}},
		{ready, "command I! 3 0 x", "response RR! 4", api.View{VR: 4, Came: 1}},
		{ready, "command I 4 0 x", "response REJ 3", api.View{VR: 3}},
		{ready, "command I! 4 0 x", "response REJ! 3", api.View{VR: 3}},
		{ready, "command I 2 0 x", "response REJ 3", api.View{VR: 3}},
		{ready, "command I! 2 0 x", "response REJ! 3", api.View{VR: 3}},
		{ready, "command I 0 0 x", "response REJ 3", api.View{VR: 3}},

		{hasRejected, "command I 3 0 x", "response RR 4", api.View{VR: 4, Came: 1}},
		{hasRejected, "command I! 3 0 x", "response RR! 4", api.View{VR: 4, Came: 1}},
		{hasRejected, "command I 4 0 x", "", api.View{VR: 3}},
		{hasRejected, "command I! 4 0 x", "response RR! 3", api.View{VR: 3}},
		{hasRejected, "command I 2 0 x", "", api.View{VR: 3}},
		{hasRejected, "command I! 2 0 x", "response RR! 3", api.View{VR: 3}},

		{busyThen, "command I 3 0 x", "response RNR 3", api.View{VR: 3, Busy: true}},
		{busyThen, "command I! 3 0 x", "response RNR! 3", api.View{VR: 3, Busy: true}},
		{busyThen, "command I 4 0 x", "response RNR 3", api.View{VR: 3, Busy: true}},
		{busyThen, "command I! 4 0 x", "response RNR! 3", api.View{VR: 3, Busy: true}},

		{rejectedBusy, "command I 3 0 x", "response RNR 3", api.View{VR: 3, Busy: true}},
		{rejectedBusy, "command I! 3 0 x", "response RNR! 3", api.View{VR: 3, Busy: true}},
		{rejectedBusy, "command I 4 0 x", "response RNR 3", api.View{VR: 3, Busy: true}},
		{rejectedBusy, "command I! 4 0 x", "response RNR! 3", api.View{VR: 3, Busy: true}},

		{noRoom, "command I 3 0 x", "response RNR 3", api.View{VR: 3, Came: 2}},
		{noRoom, "command I! 3 0 x", "response RNR! 3", api.View{VR: 3, Came: 2}},
		{noRoom, "command I 4 0 x", "response RNR 3", api.View{VR: 3, Came: 2}},
		{noRoom, "command I! 4 0 x", "response RNR! 3", api.View{VR: 3, Came: 2}},
	} {
		for _, modulo := range modulos {
			p := atThree(t, modulo, k.ahead, k.text)
			p.hears(k.text)
			if k.sent == "" {
				p.sent()
			} else {
				p.sent(k.sent)
			}
			p.told()
			k.view.State = api.Up
			p.is(k.view)
		}
	}
}

// As a response I is not heeded, whatever its numbers.
func TestP13ResponsesAreNotHeeded(t *testing.T) {
	for _, text := range []string{"response I 0 0 x", "response I! 0 0 x", "response I 4 0", "response I! 0 5 x"} {
		p := up(t, "P13: "+text, small(8))
		p.hears(text)
		p.sent()
		p.told()
		p.is(api.View{State: api.Up})
	}
}

// What had rejected rejects once more when a message has come in its turn, and not before.
func TestP13RejectsOnce(t *testing.T) {
	p := up(t, "P13", config(8, 3, 5, 4, 16, ours))
	p.hears("command I 1 0 b", "command I 2 0 c", "command I 3 0 d")
	p.sent("response REJ 0")
	// Frames that are no messages leave it as it is.
	p.hears("command RR 0", "response RNR 0", "command REJ 0", "command RR! 0", "command I 4 0 e")
	p.sent("response RR! 0")
	// So does being busy for a while.
	p.busy(true)
	p.hears("command I 0 0 a")
	p.busy(false)
	p.hears("command I 1 0 b")
	p.sent("response RNR 0", "response RNR 0", "response RR 0")
	p.hears("command I 0 0 a", "command I 2 0 c", "command I 3 0 d")
	p.sent("response RR 1", "response REJ 1")
	p.hears("command I 1 0 b", "command I 2 0 c")
	p.sent("response RR 2", "response RR 3")
	p.takes("a", "b", "c")
}

// Busy is looked at ahead of what would be rejected: that is not rejected.
func TestP13HeldUpRejectsNothing(t *testing.T) {
	p := up(t, "P13", small(8))
	p.busy(true)
	p.hears("command I 3 0 d")
	p.busy(false)
	p.hears("command I 4 0 e")
	p.sent("response RNR 0", "response RNR 0", "response RR 0", "response REJ 0")
}

func TestP13NumbersGoRound(t *testing.T) {
	for _, modulo := range modulos {
		p := up(t, fmt.Sprintf("P13: modulo %d", modulo), small(modulo))
		for n := range 3 * modulo {
			ns, next := n%modulo, (n+1)%modulo
			p.hears(fmt.Sprint("command I ", ns, 0, " ", n))
			p.sent(fmt.Sprint("response RR ", next))
			// The same once more is one behind.
			p.hears(fmt.Sprint("command I ", ns, 0, " ", n))
			p.sent(fmt.Sprint("response REJ ", next))
			p.takes(fmt.Sprint(n))
			p.is(api.View{State: api.Up, VR: next})
		}
	}
}

// Each NS but VR is rejected.
func TestP13EachNS(t *testing.T) {
	for _, modulo := range modulos {
		for _, vr := range []int{0, 1, modulo - 1} {
			for ns := range modulo {
				p := up(t, fmt.Sprintf("P13: modulo %d, VR %d, NS %d", modulo, vr, ns), small(modulo))
				p.moveOn(0, vr)
				p.hears(fmt.Sprint("command I ", ns, 0, " x"))
				if ns == vr {
					p.sent(fmt.Sprint("response RR ", (vr+1)%modulo))
					p.takes("x")
				} else {
					p.sent(fmt.Sprint("response REJ ", vr))
					p.takes()
				}
			}
		}
	}
}

// What I acknowledges makes way for more, behind the answer to it, and with the new VR.
func TestP13Pumps(t *testing.T) {
	for _, k := range []struct {
		ahead, text string
		sent        []string
	}{
		{ready, "command I 3 1 x", []string{"response RR 4", "command I 3 4 d"}},
		{ready, "command I! 3 2 x", []string{"response RR! 4", "command I 3 4 d", "command I 4 4 e"}},
		{ready, "command I 4 1 x", []string{"response REJ 3", "command I 3 3 d"}},
		{hasRejected, "command I 4 1 x", []string{"command I 3 3 d"}},
		{hasRejected, "command I! 4 1 x", []string{"response RR! 3", "command I 3 3 d"}},
		{busyThen, "command I 3 1 x", []string{"response RNR 3", "command I 3 3 d"}},
		{noRoom, "command I 3 1 x", []string{"response RNR 3", "command I 3 3 d"}},
		{ready, "command I 3 0 x", []string{"response RR 4"}},
	} {
		p := atThree(t, 8, k.ahead, k.text)
		p.sends(letters("abcde")...)
		p.sent("command I 0 3 a", "command I 1 3 b", "command I 2 3 c")
		p.ticks(2)
		p.hears(k.text)
		p.sent(k.sent...)
		v := p.view()
		want := 5
		if k.text == "command I 3 0 x" {
			want = 3 // none was acknowledged
		}
		if v.Timer != want || v.Tries != 1 {
			t.Errorf("%s: View() = %+v, want Timer %d and Tries 1", p.what, v, want)
		}
	}
}

// I with Poll ends no polling, and takes VS not back.
func TestP13WhenPolling(t *testing.T) {
	for _, text := range []string{"command I 0 1 x", "command I! 0 1 x"} {
		p := up(t, "P13: polling: "+text, small(8))
		p.sends(letters("abcd")...)
		p.ticks(6)
		p.s.Out()
		p.hears(text)
		p.is(api.View{State: api.Up, VS: 3, VA: 1, VR: 1, Timer: 4, Tries: 2, Polling: true, Queued: 3, Came: 1})
		p.hears("response RR! 1")
		p.s.Out()
		p.is(api.View{State: api.Up, VS: 4, VA: 1, VR: 1, Timer: 5, Tries: 1, Queued: 3, Came: 1})
	}
}

func TestP14UpPolls(t *testing.T) {
	for _, modulo := range modulos {
		for _, k := range []struct{ ahead, sent string }{
			{ready, "command RR! 3"},
			{hasRejected, "command RR! 3"},
			{busyThen, "command RNR! 3"},
			{noRoom, "command RNR! 3"},
		} {
			p := atThree(t, modulo, k.ahead, "Tick")
			came, busy := p.view().Came, p.view().Busy
			p.sends("a", "b")
			p.s.Out()
			for tries := 2; tries <= 4; tries++ {
				p.ticks(4)
				p.sent()
				p.ticks(1)
				p.sent(k.sent)
				p.is(api.View{State: api.Up, VS: 2, VR: 3, Timer: 5, Tries: tries, Polling: true, Busy: busy, Queued: 2, Came: came})
			}
			p.ticks(4)
			p.told()
			p.is(api.View{State: api.Up, VS: 2, VR: 3, Timer: 1, Tries: 4, Polling: true, Busy: busy, Queued: 2, Came: came})
			p.ticks(1)
			p.sent()
			p.told(api.Failed)
			p.is(api.View{Busy: busy, Came: came})
			p.ticks(100)
			p.sent()
			p.told()
		}
	}
}

// Held up is looked at when the timer runs out, not when it was set.
func TestP14HeldUpMeanwhile(t *testing.T) {
	p := up(t, "P14", small(8))
	p.sends("a")
	p.busy(true)
	p.hears("command RR 0")
	p.s.Out()
	p.ticks(5)
	p.busy(false)
	p.ticks(5)
	p.sent("command RNR! 0", "response RR 0", "command RR! 0")
}

// With one try, the first time that the timer runs out is the last.
func TestP14OneTry(t *testing.T) {
	for _, timer := range []int{1, 2, 100} {
		p := up(t, fmt.Sprintf("P14: timer %d", timer), config(8, 3, timer, 1, 2, ours))
		p.sends("a")
		p.s.Out()
		p.ticks(timer - 1)
		p.is(api.View{State: api.Up, VS: 1, Timer: 1, Tries: 1, Queued: 1})
		p.told()
		p.ticks(1)
		p.sent()
		p.told(api.Failed)
		p.is(api.View{})
	}
}

// Acknowledged in part, the timer begins anew, with its tries; not when none was, nor when polling.
func TestP14TimerBeginsAnew(t *testing.T) {
	p := up(t, "P14", small(8))
	p.sends(letters("abc")...)
	for n := 1; n < 3; n++ {
		p.ticks(4)
		p.hears(fmt.Sprint("response RR ", n))
		p.is(api.View{State: api.Up, VS: 3, VA: n, Timer: 5, Tries: 1, Queued: 3 - n})
	}
	p.ticks(4)
	p.hears("response RR 2")
	p.is(api.View{State: api.Up, VS: 3, VA: 2, Timer: 1, Tries: 1, Queued: 1})
	p.ticks(7)
	p.sends("d")
	p.hears("command RR 3")
	p.is(api.View{State: api.Up, VS: 3, VA: 3, Timer: 4, Tries: 3, Polling: true, Queued: 1})
	p.hears("response RR! 3")
	p.is(api.View{State: api.Up, VS: 4, VA: 3, Timer: 5, Tries: 1, Queued: 1})
	p.told()
}

// Up, with nothing on its way, no time runs.
func TestP14NothingIsWaitedFor(t *testing.T) {
	p := up(t, "P14", small(8))
	p.ticks(1000)
	p.sends("a")
	p.hears("response RR 1")
	p.ticks(1000)
	p.sent("command I 0 0 a")
	p.told()
	p.is(api.View{State: api.Up, VS: 1, VA: 1, Tries: 1})
}
