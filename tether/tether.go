// Package tether: two stations on a line: see DOC.md.
package tether

import "tether/api"

// Send sends a message (P9).
func (s *Station) Send(info []byte) api.Errno {
	if s.isClosed() {
		return api.ErrDone
	}
	return api.OK
}

// Busy says whether messages may come (P9).
func (s *Station) Busy(on bool) api.Errno {
	if s.isClosed() {
		return api.ErrDone
	}
	return api.OK
}

// Taken hands over messages that came (P9).
func (s *Station) Taken() ([][]byte, api.Errno) {
	if s.isClosed() {
		return nil, api.ErrDone
	}
	return nil, api.OK
}
