package tether

import "tether/api"

// Station is one end of a line.
type Station struct {
	config api.Config
	closed chan struct{} // nothing is ever sent on it: that it is closed is the news
	state  int
	talk
	busy   bool
	came   [][]byte
	out    [][]byte
	events []int
}

// talk: what a station forgets when it starts over.
type talk struct {
	vs, va, vr, vm    int
	queue             [][]byte // the first has the number va
	timer, tries      int
	polling, peerBusy bool
	rejected          bool
}

// New makes a station (P7).
func New(c api.Config) (*Station, api.Errno) {
	if !configFits(c) {
		return nil, api.ErrArg
	}
	return &Station{config: c, closed: make(chan struct{})}, api.OK
}

func configFits(c api.Config) bool {
	return isModulo(c.Modulo) &&
		isCount(c.Window, api.MaxWindow) && c.Window < c.Modulo &&
		isCount(c.Timer, api.MaxTimer) &&
		isCount(c.Tries, api.MaxTries) &&
		isCount(c.Room, api.MaxRoom) &&
		isAddress(c.Address)
}

func isCount(n, most int) bool { return n >= 1 && n <= most }

// Connect calls the other one (P8).
func (s *Station) Connect() api.Errno {
	switch {
	case s.isClosed():
		return api.ErrDone
	case s.state != api.Down && s.state != api.Broken:
		return api.ErrState
	}
	s.call()
	return api.OK
}

// Disconnect leaves it (P8).
func (s *Station) Disconnect() api.Errno {
	switch {
	case s.isClosed():
		return api.ErrDone
	case s.state == api.Down || s.state == api.Leaving:
		return api.ErrState
	}
	s.ask(api.Leaving, api.DISC)
	return api.OK
}

// Tick lets time go by (P14).
func (s *Station) Tick() api.Errno {
	switch {
	case s.isClosed():
		return api.ErrDone
	case s.timer == 0:
		return api.OK
	}
	s.timer--
	if s.timer == 0 {
		s.runOut()
	}
	return api.OK
}

// Out gives the frames that are to be sent (P15).
func (s *Station) Out() ([][]byte, api.Errno) {
	if s.isClosed() {
		return nil, api.ErrDone
	}
	frames := s.out
	s.out = nil
	return frames, api.OK
}

// Events tells what has happened (P15).
func (s *Station) Events() ([]int, api.Errno) {
	if s.isClosed() {
		return nil, api.ErrDone
	}
	events := s.events
	s.events = nil
	return events, api.OK
}

// View tells how it is (P15).
func (s *Station) View() (api.View, api.Errno) {
	if s.isClosed() {
		return api.View{}, api.ErrDone
	}
	return api.View{
		State:    s.state,
		VS:       s.vs,
		VA:       s.va,
		VR:       s.vr,
		Timer:    s.timer,
		Tries:    s.tries,
		Polling:  s.polling,
		PeerBusy: s.peerBusy,
		Busy:     s.busy,
		Queued:   len(s.queue),
		Came:     len(s.came),
	}, api.OK
}

// Close closes it (P15).
func (s *Station) Close() api.Errno {
	if s.isClosed() {
		return api.ErrDone
	}
	close(s.closed)
	return api.OK
}

func (s *Station) isClosed() bool {
	select {
	case <-s.closed:
		return true
	default:
		return false
	}
}

func (s *Station) startOver() { s.talk = talk{} }

func (s *Station) call() { s.ask(api.Calling, api.SABM) }

// ask starts over with a command that is sent once more as long as no answer comes.
func (s *Station) ask(state, kind int) {
	s.startOver()
	s.state = state
	s.tries = 1
	s.timer = s.config.Timer
	s.sendCommand(api.Frame{Kind: kind, Poll: true})
}

func (s *Station) goDown(event int) {
	s.startOver()
	s.state = api.Down
	s.tell(event)
}

func (s *Station) tell(event int) { s.events = append(s.events, event) }

// runOut is for a timer that has just come to 0.
func (s *Station) runOut() {
	if s.tries == s.config.Tries {
		s.goDown(api.Failed)
		return
	}
	s.tries++
	s.timer = s.config.Timer
	switch s.state {
	case api.Calling:
		s.sendCommand(api.Frame{Kind: api.SABM, Poll: true})
	case api.Leaving:
		s.sendCommand(api.Frame{Kind: api.DISC, Poll: true})
	case api.Up:
		s.polling = true
		s.sendCommand(api.Frame{Kind: s.readiness(), Poll: true, NR: s.vr})
	}
}

func (s *Station) sendCommand(f api.Frame) {
	f.Address = firstAddress + otherAddress - s.config.Address
	s.send(f)
}

func (s *Station) sendResponse(f api.Frame) {
	f.Address = s.config.Address
	s.send(f)
}

func (s *Station) send(f api.Frame) {
	b, _ := Write(s.config.Modulo, f) // a station's own frames are right
	s.out = append(s.out, b)
}
