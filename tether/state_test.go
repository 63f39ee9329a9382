package tether

import (
	"bytes"
	"fmt"
	"slices"
	"strings"
	"testing"

	"tether/api"
)

// These tests are of the package itself: they give a station something of everything in each state, more than calls lead to, so that it shows what is forgotten and what stays.

var stateNames = []string{api.Down: "Down", api.Calling: "Calling", api.Up: "Up", api.Leaving: "Leaving", api.Broken: "Broken"}

var kindNames = []string{api.I: "I", api.RR: "RR", api.RNR: "RNR", api.REJ: "REJ", api.SABM: "SABM", api.DISC: "DISC", api.UA: "UA", api.DM: "DM", api.FRMR: "FRMR"}

const numbered = "I RR RNR REJ"

func named(kinds string, kind int) bool {
	return slices.Contains(strings.Fields(kinds), kindNames[kind])
}

// rule: what the document says of a frame in a state.
type rule struct {
	state int
	kinds string // by their names
	role  string // "command" or "response": what it must be
	poll  string // "Poll": with it alone; "any": either way
	sent  int    // the kind of the response, with the frame's own Poll; 0: none
	then  int    // the state
	event int    // 0: none
	over  bool   // it starts over
}

var rulesOfHear = []rule{
	{api.Down, "SABM", "command", "any", api.UA, api.Up, api.Connected, true},
	{api.Down, "DISC", "command", "any", api.DM, api.Down, 0, false},
	{api.Down, numbered, "command", "Poll", api.DM, api.Down, 0, false},

	{api.Calling, "SABM", "command", "any", api.UA, api.Calling, 0, false},
	{api.Calling, "DISC", "command", "any", api.DM, api.Calling, 0, false},
	{api.Calling, "UA", "response", "Poll", 0, api.Up, api.Connected, true},
	{api.Calling, "DM", "response", "Poll", 0, api.Down, api.Failed, true},

	{api.Leaving, "SABM", "command", "any", api.DM, api.Leaving, 0, false},
	{api.Leaving, "DISC", "command", "any", api.UA, api.Leaving, 0, false},
	{api.Leaving, "UA DM", "response", "Poll", 0, api.Down, api.Disconnected, true},

	{api.Broken, "SABM", "command", "any", api.UA, api.Up, api.Reset, true},
	{api.Broken, "DISC", "command", "any", api.UA, api.Down, api.Disconnected, true},
	{api.Broken, "DM", "response", "any", 0, api.Down, api.Disconnected, true},
	{api.Broken, numbered, "command", "any", api.FRMR, api.Broken, 0, false},

	{api.Up, "SABM", "command", "any", api.UA, api.Up, api.Reset, true},
	{api.Up, "DISC", "command", "any", api.UA, api.Down, api.Disconnected, true},
	{api.Up, "DM", "response", "any", 0, api.Down, api.Disconnected, true},
	{api.Up, "UA FRMR", "response", "any", 0, api.Calling, api.Reset, true}, // and it calls
}

// ruleOf gives the rule of a frame; one of which nothing is said leaves all as it is.
func ruleOf(state, own int, f api.Frame) rule {
	role := "response"
	if f.Address == own {
		role = "command"
	}
	for _, r := range rulesOfHear {
		if r.state == state && named(r.kinds, f.Kind) && r.role == role && (f.Poll || r.poll == "any") {
			return r
		}
	}
	return rule{state: state, then: state}
}

func configOf(modulo, address int) api.Config {
	return api.Config{Modulo: modulo, Window: 3, Timer: 5, Tries: 3, Room: 4, Address: address}
}

func newStation(t *testing.T, c api.Config) *Station {
	t.Helper()
	s, e := New(c)
	if s == nil || e != api.OK {
		t.Fatalf("P7: New(%v) = %v, %d", c, s != nil, e)
	}
	return s
}

// full gives a station in a state that has something of everything.
func full(t *testing.T, c api.Config, state int) *Station {
	t.Helper()
	s := newStation(t, c)
	s.state = state
	s.vs, s.va, s.vr, s.vm = 3, 2, 5, 4
	s.timer, s.tries = 4, 2
	s.polling, s.peerBusy, s.busy, s.rejected = true, true, true, true
	s.queue = [][]byte{[]byte("one"), []byte("two"), []byte("three")}
	s.came = [][]byte{[]byte("four"), []byte("five")}
	return s
}

func viewOf(t *testing.T, s *Station) api.View {
	t.Helper()
	v, e := s.View()
	if e != api.OK {
		t.Fatalf("P15: View: error %d", e)
	}
	return v
}

// kept is what View tells of a full station that has started over.
func kept(state int) api.View {
	return api.View{State: state, Busy: true, Came: 2}
}

// calling is the same, when it waits for an answer to what it has just sent.
func calling(state int, c api.Config) api.View {
	v := kept(state)
	v.Timer, v.Tries = c.Timer, 1
	return v
}

func wire(t *testing.T, modulo int, f api.Frame) []byte {
	t.Helper()
	b, e := Write(modulo, f)
	if e != api.OK {
		t.Fatalf("P5: Write(%d, %v): error %d", modulo, f, e)
	}
	return b
}

// report gives an info of FRMR that is all one byte.
func report(modulo int, x byte) []byte {
	if modulo == 8 {
		return []byte{x, x, x}
	}
	return []byte{x, x, x, x, x}
}

// response gives the bytes of a response that has no numbers.
func response(t *testing.T, c api.Config, kind int, poll bool) []byte {
	t.Helper()
	f := api.Frame{Address: c.Address, Kind: kind, Poll: poll}
	if kind == api.FRMR {
		f.Info = report(c.Modulo, 0)
	}
	return wire(t, c.Modulo, f)
}

func command(t *testing.T, c api.Config, kind, nr int) []byte {
	t.Helper()
	return wire(t, c.Modulo, api.Frame{Address: 4 - c.Address, Kind: kind, Poll: true, NR: nr})
}

// check compares what a station sends, tells and shows.
func check(t *testing.T, what string, s *Station, sent [][]byte, events []int, v api.View) {
	t.Helper()
	if got, e := s.Out(); e != api.OK || !slices.EqualFunc(got, sent, bytes.Equal) {
		t.Errorf("%s: Out() = %v, %d, want %v", what, got, e, sent)
	}
	if got, e := s.Events(); e != api.OK || !slices.Equal(got, events) {
		t.Errorf("%s: Events() = %v, %d, want %v", what, got, e, events)
	}
	if got := viewOf(t, s); got != v {
		t.Errorf("%s: View() = %+v, want %+v", what, got, v)
	}
}

// eachConfig goes through both modulos and both addresses.
func eachConfig(do func(c api.Config)) {
	for _, modulo := range []int{8, 128} {
		for _, address := range []int{1, 3} {
			do(configOf(modulo, address))
		}
	}
}

// eachFrame goes through all kinds, as commands and as responses, with Poll and without.
func eachFrame(modulo int, do func(f api.Frame)) {
	for kind := api.I; kind <= api.FRMR; kind++ {
		for _, address := range []int{1, 3} {
			for _, poll := range []bool{false, true} {
				f := api.Frame{Address: address, Kind: kind, Poll: poll}
				switch kind {
				case api.I:
					f.NS, f.NR, f.Info = 5, 3, []byte("info")
				case api.RR, api.RNR, api.REJ:
					f.NR = 3
				case api.FRMR:
					f.Info = report(modulo, 7)
				}
				do(f)
			}
		}
	}
}

func eventsOf(r rule) []int {
	if r.event == 0 {
		return nil
	}
	return []int{r.event}
}

func TestP10P11HeardInEachState(t *testing.T) {
	for state := api.Down; state <= api.Broken; state++ {
		eachConfig(func(c api.Config) {
			eachFrame(c.Modulo, func(f api.Frame) {
				if state == api.Up && named(numbered, f.Kind) {
					return // these hang on numbers
				}
				what := fmt.Sprintf("%s of %+v hears %s %+v", stateNames[state], c, kindNames[f.Kind], f)
				s := full(t, c, state)
				view := viewOf(t, s)
				r := ruleOf(state, c.Address, f)
				var sent [][]byte
				if r.sent != 0 {
					sent = append(sent, response(t, c, r.sent, f.Poll))
				}
				if r.over {
					view = kept(r.then)
				}
				if r.over && r.then == api.Calling {
					sent = append(sent, command(t, c, api.SABM, 0))
					view = calling(api.Calling, c)
				}
				if e := s.Hear(wire(t, c.Modulo, f)); e != api.OK {
					t.Errorf("%s: error %d", what, e)
				}
				check(t, what, s, sent, eventsOf(r), view)
				if forgotten := s.vm == 0 && !s.rejected; forgotten != r.over {
					t.Errorf("%s: VM %d, rejected %v", what, s.vm, s.rejected)
				}
			})
		})
	}
}

func TestP8InEachState(t *testing.T) {
	eachConfig(func(c api.Config) {
		for state := api.Down; state <= api.Broken; state++ {
			what := stateNames[state] + ": "
			s := full(t, c, state)
			view := viewOf(t, s)
			if state == api.Down || state == api.Broken {
				checkError(t, what+"Connect", s.Connect(), api.OK)
				check(t, what+"Connect", s, [][]byte{command(t, c, api.SABM, 0)}, nil, calling(api.Calling, c))
			} else {
				checkError(t, what+"Connect", s.Connect(), api.ErrState)
				check(t, what+"Connect", s, nil, nil, view)
			}
			s = full(t, c, state)
			if state == api.Down || state == api.Leaving {
				checkError(t, what+"Disconnect", s.Disconnect(), api.ErrState)
				check(t, what+"Disconnect", s, nil, nil, view)
			} else {
				checkError(t, what+"Disconnect", s.Disconnect(), api.OK)
				check(t, what+"Disconnect", s, [][]byte{command(t, c, api.DISC, 0)}, nil, calling(api.Leaving, c))
			}
		}
	})
}

func checkError(t *testing.T, what string, got, want api.Errno) {
	t.Helper()
	if got != want {
		t.Errorf("%s = %d, want %d", what, got, want)
	}
}

// timed: the states that have a timer, and what a full station sends when it runs out.
var timed = []struct{ state, kind int }{{api.Calling, api.SABM}, {api.Leaving, api.DISC}, {api.Up, api.RNR}}

func TestP14TimerThatRunsOut(t *testing.T) {
	eachConfig(func(c api.Config) {
		for _, k := range timed {
			what := "P14: " + stateNames[k.state]
			s := full(t, c, k.state)
			s.polling = false
			view := viewOf(t, s)
			for s.timer > 1 {
				checkError(t, what+": Tick", s.Tick(), api.OK)
				view.Timer--
				check(t, what+", before it runs out", s, nil, nil, view)
			}
			checkError(t, what+": Tick", s.Tick(), api.OK)
			view.Timer, view.Tries = c.Timer, 3
			view.Polling = k.state == api.Up
			sent := command(t, c, k.kind, 0)
			if k.state == api.Up {
				sent = command(t, c, k.kind, 5)
			}
			check(t, what+", run out", s, [][]byte{sent}, nil, view)
			for range c.Timer - 1 {
				s.Tick()
				view.Timer--
			}
			check(t, what+", before it fails", s, nil, nil, view)
			checkError(t, what+": Tick", s.Tick(), api.OK)
			check(t, what+", failed", s, nil, []int{api.Failed}, kept(api.Down))
			checkError(t, what+": Tick", s.Tick(), api.OK)
			check(t, what+", off", s, nil, nil, kept(api.Down))
		}
	})
}

func TestP14WhatIsPolledWith(t *testing.T) {
	for _, k := range []struct {
		busy       bool
		came, kind int
	}{{false, 0, api.RR}, {false, 3, api.RR}, {false, 4, api.RNR}, {true, 0, api.RNR}, {true, 4, api.RNR}} {
		eachConfig(func(c api.Config) {
			s := newStation(t, c)
			s.state, s.vr, s.timer, s.tries, s.busy = api.Up, 6, 1, 1, k.busy
			s.came = make([][]byte, k.came)
			s.Tick()
			view := api.View{State: api.Up, VR: 6, Timer: c.Timer, Tries: 2, Polling: true, Busy: k.busy, Came: k.came}
			check(t, fmt.Sprintf("P14: Up, busy %v, %d came", k.busy, k.came), s, [][]byte{command(t, c, k.kind, 6)}, nil, view)
		})
	}
}

func TestP14TriesAreUsedUp(t *testing.T) {
	for _, k := range timed {
		for _, timer := range []int{1, 2, api.MaxTimer} {
			for _, tries := range []int{1, 2, api.MaxTries} {
				c := configOf(8, 3)
				c.Timer, c.Tries = timer, tries
				s := newStation(t, c)
				s.state, s.timer, s.tries = k.state, timer, 1
				for range timer*tries - 1 {
					s.Tick()
				}
				what := fmt.Sprintf("P14: %s, timer %d, tries %d", stateNames[k.state], timer, tries)
				if sent, _ := s.Out(); len(sent) != tries-1 {
					t.Errorf("%s: sent %d times more, want %d", what, len(sent), tries-1)
				}
				view := api.View{State: k.state, Timer: 1, Tries: tries, Polling: k.state == api.Up && tries > 1}
				check(t, what+", before it fails", s, nil, nil, view)
				s.Tick()
				check(t, what+", failed", s, nil, []int{api.Failed}, api.View{})
			}
		}
	}
}

func TestP14TimerThatIsOff(t *testing.T) {
	for state := api.Down; state <= api.Broken; state++ {
		s := full(t, configOf(8, 3), state)
		s.timer = 0
		view := viewOf(t, s)
		for range 3 * api.MaxTimer {
			checkError(t, "P14: Tick", s.Tick(), api.OK)
		}
		check(t, "P14: "+stateNames[state]+", the timer off", s, nil, nil, view)
	}
}

func TestP15ClosedInEachState(t *testing.T) {
	for state := api.Down; state <= api.Broken; state++ {
		what := "P15: closed when " + stateNames[state] + ": "
		s := full(t, configOf(8, 3), state)
		s.Hear([]byte{3, 63})
		s.Hear([]byte{3, 83})
		checkError(t, what+"Close", s.Close(), api.OK)
		for range 2 {
			checkError(t, what+"Close", s.Close(), api.ErrDone)
			checkError(t, what+"Connect", s.Connect(), api.ErrDone)
			checkError(t, what+"Disconnect", s.Disconnect(), api.ErrDone)
			checkError(t, what+"Send", s.Send(nil), api.ErrDone)
			checkError(t, what+"Send of too much", s.Send(make([]byte, api.MaxInfo+1)), api.ErrDone)
			checkError(t, what+"Busy", s.Busy(true), api.ErrDone)
			checkError(t, what+"Busy", s.Busy(false), api.ErrDone)
			checkError(t, what+"Tick", s.Tick(), api.ErrDone)
			for _, b := range [][]byte{nil, {2}, {3}, {3, 13}, {3, 63}, {1, 115}} {
				checkError(t, what+"Hear", s.Hear(b), api.ErrDone)
			}
			if l, e := s.Taken(); l != nil || e != api.ErrDone {
				t.Errorf("%sTaken() = %v, %d", what, l, e)
			}
			if l, e := s.Out(); l != nil || e != api.ErrDone {
				t.Errorf("%sOut() = %v, %d", what, l, e)
			}
			if l, e := s.Events(); l != nil || e != api.ErrDone {
				t.Errorf("%sEvents() = %v, %d", what, l, e)
			}
			if v, e := s.View(); v != (api.View{}) || e != api.ErrDone {
				t.Errorf("%sView() = %+v, %d", what, v, e)
			}
		}
	}
}

func TestP10WrongFramesInEachState(t *testing.T) {
	for state := api.Down; state <= api.Broken; state++ {
		for _, modulo := range []int{8, 128} {
			s := full(t, configOf(modulo, 3), state)
			view := viewOf(t, s)
			for _, b := range wrongFrames(modulo) {
				_, want := Read(modulo, b)
				if want == api.OK {
					t.Fatalf("P6: Read(%d, %v): no error", modulo, b)
				}
				what := fmt.Sprintf("P10: %s, modulo %d: Hear(%v)", stateNames[state], modulo, b)
				checkError(t, what, s.Hear(b), want)
				check(t, what, s, nil, nil, view)
			}
		}
	}
}

// wrongFrames: frames that are too short, of no address, of no control, and with an info that may not be; SABM is the other modulo's.
func wrongFrames(modulo int) [][]byte {
	wrong := [][]byte{nil, {}, {0}, {2, 63}, {255, 115}, {1}, {3}, {3, 13}, {1, 255}, {3, 67, 0}, {1, 115, 0}, {1, 31, 9, 9, 9}, {1, 135}, {1, 135, 0, 0}, {1, 135, 0, 0, 0, 0}, {1, 135, 0, 0, 0, 0, 0, 0}}
	if modulo == 8 {
		return append(wrong, []byte{3, 111}, []byte{3, 127}, []byte{3, 47, 0}, []byte{1, 135, 0, 0, 0, 0, 0}, []byte{3, 17, 0}, append([]byte{3, 0}, make([]byte, 33)...))
	}
	return append(wrong, []byte{3, 47}, []byte{3, 63}, []byte{3, 111, 0}, []byte{1, 135, 0, 0, 0}, []byte{3, 0}, []byte{3, 1}, []byte{3, 1, 1, 0}, append([]byte{3, 0, 0}, make([]byte, 33)...))
}
