// Package tether: two stations on a line: see DOC.md.
package tether

import (
	"bytes"

	"tether/api"
)

// Send sends a message (P9).
func (s *Station) Send(info []byte) api.Errno {
	switch {
	case s.isClosed():
		return api.ErrDone
	case s.state != api.Up:
		return api.ErrState
	case len(info) > api.MaxInfo:
		return api.ErrArg
	case len(s.queue) >= api.MaxQueue:
		return api.ErrFull
	}
	s.queue = append(s.queue, bytes.Clone(info))
	s.pump()
	return api.OK
}

// Busy says whether messages may come (P9).
func (s *Station) Busy(on bool) api.Errno {
	if s.isClosed() {
		return api.ErrDone
	}
	wasHeldUp := s.isHeldUp()
	s.busy = on
	s.answerChange(wasHeldUp)
	return api.OK
}

// Taken hands over messages that came (P9).
func (s *Station) Taken() ([][]byte, api.Errno) {
	if s.isClosed() {
		return nil, api.ErrDone
	}
	wasHeldUp := s.isHeldUp()
	messages := s.came
	s.came = nil
	s.answerChange(wasHeldUp)
	return messages, api.OK
}
