package tether

import (
	"slices"

	"tether/api"
)

// ahead tells how far a number is ahead of the oldest one that is not acknowledged: numbers go round, so they are held against each other by this alone.
func (s *Station) ahead(n int) int {
	return (n - s.va + s.config.Modulo) % s.config.Modulo
}

func (s *Station) following(n int) int { return (n + 1) % s.config.Modulo }

// pump sends what may be sent, and sees to the timer.
func (s *Station) pump() {
	if s.polling {
		return
	}
	for s.maySendNext() {
		s.sendNext()
	}
	s.setTimer()
}

func (s *Station) maySendNext() bool {
	at := s.ahead(s.vs)
	return !s.peerBusy && at < len(s.queue) && at < s.config.Window
}

func (s *Station) sendNext() {
	info := s.queue[s.ahead(s.vs)]
	s.sendCommand(api.Frame{Kind: api.I, NS: s.vs, NR: s.vr, Info: info})
	s.vs = s.following(s.vs)
	// A message that is sent once more leaves what is on its way as it is.
	if s.ahead(s.vm) < s.ahead(s.vs) {
		s.vm = s.vs
	}
}

// setTimer has it run as long as something is waited for: that messages are acknowledged, or that the peer is no longer busy.
func (s *Station) setTimer() {
	switch {
	case s.va == s.vm && !s.peerBusy:
		s.timer = 0
	case s.timer == 0:
		s.timer = s.config.Timer
		s.tries = 1
	}
}

// isGood tells whether a number that is heard may acknowledge messages.
func (s *Station) isGood(nr int) bool { return s.ahead(nr) <= s.ahead(s.vm) }

// acknowledge takes a good number.
func (s *Station) acknowledge(nr int) {
	count := s.ahead(nr)
	if count == 0 {
		return
	}
	if s.ahead(s.vs) < count {
		s.vs = nr
	}
	s.queue = slices.Delete(s.queue, 0, count)
	s.va = nr
	if !s.polling {
		s.timer = 0
	}
}

// answer says whether messages may come, and which is the next.
func (s *Station) answer(poll bool) {
	s.sendResponse(api.Frame{Kind: s.readiness(), Poll: poll, NR: s.vr})
}

// answerChange answers unasked, if messages may come now and might not, or the other way round.
func (s *Station) answerChange(wasHeldUp bool) {
	if s.state == api.Up && s.isHeldUp() != wasHeldUp {
		s.answer(false)
	}
}

// readiness tells the kind of frame that says whether messages may come.
func (s *Station) readiness() int {
	if s.isHeldUp() {
		return api.RNR
	}
	return api.RR
}

func (s *Station) isHeldUp() bool { return s.busy || len(s.came) >= s.config.Room }
