// Package tether: two stations on a line: see DOC.md.
package tether

import "tether/api"

// Station is one end of a line.
type Station struct{}

// New makes a station (P7).
func New(c api.Config) (*Station, api.Errno) { return nil, api.OK }

// Connect calls the other one (P8).
func (s *Station) Connect() api.Errno { return api.OK }

// Disconnect leaves it (P8).
func (s *Station) Disconnect() api.Errno { return api.OK }

// Send sends a message (P9).
func (s *Station) Send(info []byte) api.Errno { return api.OK }

// Busy says whether messages may come (P9).
func (s *Station) Busy(on bool) api.Errno { return api.OK }

// Taken hands over messages that came (P9).
func (s *Station) Taken() ([][]byte, api.Errno) { return nil, api.OK }

// Hear hands a station a frame (P10 to P13).
func (s *Station) Hear(b []byte) api.Errno { return api.OK }

// Tick lets time go by (P14).
func (s *Station) Tick() api.Errno { return api.OK }

// Out gives the frames that are to be sent (P15).
func (s *Station) Out() ([][]byte, api.Errno) { return nil, api.OK }

// Events tells what has happened (P15).
func (s *Station) Events() ([]int, api.Errno) { return nil, api.OK }

// View tells how it is (P15).
func (s *Station) View() (api.View, api.Errno) { return api.View{}, api.OK }

// Close closes it (P15).
func (s *Station) Close() api.Errno { return api.OK }
