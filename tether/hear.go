package tether

import "tether/api"

// Hear hands a station a frame (P10 to P13).
func (s *Station) Hear(b []byte) api.Errno {
	if s.isClosed() {
		return api.ErrDone
	}
	f, e := Read(s.config.Modulo, b)
	if e != api.OK {
		return e
	}
	if s.heeds(f) {
		s.hearFrame(f)
	}
	return api.OK
}

func (s *Station) hearFrame(f api.Frame) {
	switch s.state {
	case api.Down:
		s.hearDown(f)
	case api.Calling:
		s.hearCalling(f)
	case api.Up:
		s.hearUp(f)
	case api.Leaving:
		s.hearLeaving(f)
	case api.Broken:
		s.hearBroken(f)
	}
}

func (s *Station) isCommand(f api.Frame) bool { return f.Address == s.config.Address }

// heeds tells whether a frame's kind may come as a command, or as a response, whichever it is.
func (s *Station) heeds(f api.Frame) bool {
	switch f.Kind {
	case api.I, api.SABM, api.DISC:
		return s.isCommand(f)
	case api.UA, api.DM, api.FRMR:
		return !s.isCommand(f)
	}
	return true
}

func (s *Station) hearDown(f api.Frame) {
	switch f.Kind {
	case api.SABM:
		s.accept(f, api.Connected)
	case api.DISC:
		s.respond(api.DM, f)
	case api.I, api.RR, api.RNR, api.REJ:
		if s.isCommand(f) && f.Poll {
			s.respond(api.DM, f)
		}
	}
}

func (s *Station) hearCalling(f api.Frame) {
	switch {
	case f.Kind == api.SABM:
		s.respond(api.UA, f)
	case f.Kind == api.DISC:
		s.respond(api.DM, f)
	case f.Kind == api.UA && f.Poll:
		s.comeUp(api.Connected)
	case f.Kind == api.DM && f.Poll:
		s.goDown(api.Failed)
	}
}

func (s *Station) hearUp(f api.Frame) {
	switch f.Kind {
	case api.SABM:
		s.accept(f, api.Reset)
	case api.DISC:
		s.agree(f)
	case api.DM:
		s.goDown(api.Disconnected)
	case api.UA, api.FRMR:
		s.tell(api.Reset)
		s.call()
	case api.I, api.RR, api.RNR, api.REJ:
		s.hearNumbered(f)
	}
}

func (s *Station) hearNumbered(f api.Frame) {
	if !s.isGood(f.NR) {
		s.fallApart(f)
		return
	}
	s.acknowledge(f.NR)
	if f.Kind == api.I {
		s.hearMessage(f)
	} else {
		s.hearReadiness(f)
	}
	s.pump()
}

// fallApart is for a frame that acknowledges what was not sent, or was acknowledged already.
func (s *Station) fallApart(f api.Frame) {
	s.startOver()
	s.state = api.Broken
	s.report(s.isCommand(f) && f.Poll)
	s.tell(api.Reset)
}

// hearReadiness is for RR, RNR and REJ, when their number was good.
func (s *Station) hearReadiness(f api.Frame) {
	s.peerBusy = f.Kind == api.RNR
	if f.Kind == api.REJ {
		s.vs = f.NR
	}
	switch {
	case !f.Poll:
	case s.isCommand(f):
		s.answer(true)
	case s.polling:
		s.endPolling(f.NR)
	}
}

// endPolling takes VS back, so that what the answer to a poll does not acknowledge goes out once more.
func (s *Station) endPolling(nr int) {
	s.polling = false
	s.vs = nr
	s.timer = 0
}

// hearMessage is for I, when its NR was good.
func (s *Station) hearMessage(f api.Frame) {
	switch {
	case s.isHeldUp():
		s.answer(f.Poll)
	case f.NS == s.vr:
		s.vr = s.following(s.vr)
		s.came = append(s.came, f.Info)
		s.rejected = false
		s.answer(f.Poll)
	case !s.rejected:
		s.rejected = true
		s.sendResponse(api.Frame{Kind: api.REJ, Poll: f.Poll, NR: s.vr})
	case f.Poll:
		s.answer(true)
	}
}

func (s *Station) hearLeaving(f api.Frame) {
	switch f.Kind {
	case api.SABM:
		s.respond(api.DM, f)
	case api.DISC:
		s.respond(api.UA, f)
	case api.UA, api.DM:
		if f.Poll {
			s.goDown(api.Disconnected)
		}
	}
}

func (s *Station) hearBroken(f api.Frame) {
	switch f.Kind {
	case api.SABM, api.DISC, api.DM:
		s.hearUp(f) // these mend or end what is Broken just as what is Up
	case api.I, api.RR, api.RNR, api.REJ:
		if s.isCommand(f) {
			s.report(f.Poll)
		}
	}
}

func (s *Station) comeUp(event int) {
	s.startOver()
	s.state = api.Up
	s.tell(event)
}

// accept says yes to SABM.
func (s *Station) accept(f api.Frame, event int) {
	s.comeUp(event)
	s.respond(api.UA, f)
}

// agree says yes to DISC.
func (s *Station) agree(f api.Frame) {
	s.respond(api.UA, f)
	s.goDown(api.Disconnected)
}

// respond answers a frame with its own Poll.
func (s *Station) respond(kind int, f api.Frame) {
	s.sendResponse(api.Frame{Kind: kind, Poll: f.Poll})
}

// report tells the other one that it sent what may not be.
func (s *Station) report(poll bool) {
	s.sendResponse(api.Frame{Kind: api.FRMR, Poll: poll, Info: make([]byte, reportBytes(s.config.Modulo))})
}
