package tether

import (
	"bytes"

	"tether/api"
)

const (
	flagOnes  = 6 // ones in a row that make a flag
	abortOnes = 7 // ones in a row that end a frame without one
	flagHeld  = 6 // bits of a flag that were added ahead of knowing that it is one: its 0 and five ones
	minBits   = 8 * (minFrame + sumBytes)

	heldBytes = api.MaxFrame + sumBytes
	// No more bits are counted than those of a frame that is too long by one byte, and of the flag behind it.
	maxBits = 8*(heldBytes+1) + flagHeld
)

// Hunter finds frames on a line.
type Hunter struct {
	on     bool
	ones   int             // ones in a row, up to abortOnes
	length int             // bits that it has, up to maxBits
	held   [heldBytes]byte // the first of these bits
}

// NewHunter makes a hunter (P4).
func NewHunter() *Hunter { return &Hunter{} }

// Feed hands it bits (P4).
func (h *Hunter) Feed(bits string) ([]api.Found, api.Errno) {
	if !onlyBits(bits) {
		return nil, api.ErrArg
	}
	var told []api.Found
	for _, bit := range bits {
		if found, ok := h.hear(bit); ok {
			told = append(told, found)
		}
	}
	return told, api.OK
}

func onlyBits(text string) bool {
	for _, c := range text {
		if c != '0' && c != '1' {
			return false
		}
	}
	return true
}

// hear takes one bit, and tells what ended with it, if something did.
func (h *Hunter) hear(bit rune) (api.Found, bool) {
	if bit == '1' {
		return h.hearOne()
	}
	found, ok := h.hearNought()
	h.ones = 0
	return found, ok
}

func (h *Hunter) hearOne() (api.Found, bool) {
	// Beyond an abort the hunter is off till a 0 comes: more ones change nothing.
	if h.ones < abortOnes {
		h.ones++
	}
	if h.ones == abortOnes {
		return h.abort()
	}
	if h.ones <= maxOnes {
		h.add(1)
	}
	return api.Found{}, false
}

func (h *Hunter) hearNought() (api.Found, bool) {
	switch h.ones {
	case flagOnes:
		return h.endFrame()
	case maxOnes: // put in by Bits
	default:
		h.add(0)
	}
	return api.Found{}, false
}

func (h *Hunter) abort() (api.Found, bool) {
	told := h.on && h.length > flagHeld
	h.on, h.length = false, 0
	if !told {
		return api.Found{}, false
	}
	return api.Found{Kind: api.Aborted}, true
}

func (h *Hunter) endFrame() (api.Found, bool) {
	wasOn, length := h.on, h.length-flagHeld
	h.on, h.length = true, 0
	// Two flags may share a 0: then there are fewer bits than a flag's.
	if !wasOn || length <= 0 {
		return api.Found{}, false
	}
	return h.judge(length), true
}

// add keeps a bit. Of a frame that is too long only that, and whether it is of whole bytes, is told: so its length may go back by a byte.
func (h *Hunter) add(bit byte) {
	if !h.on {
		return
	}
	if h.length == maxBits {
		h.length -= 8
	}
	if at := h.length / 8; at < heldBytes {
		h.held[at] = h.held[at]>>1 | bit<<7
	}
	h.length++
}

// judge tells what the first bits that are held are, as a frame.
func (h *Hunter) judge(length int) api.Found {
	switch {
	case length < minBits:
		return api.Found{Kind: api.Short}
	case length%8 != 0:
		return api.Found{Kind: api.Odd}
	case length > 8*heldBytes:
		return api.Found{Kind: api.Long}
	}
	end := length/8 - sumBytes
	frame, sum := h.held[:end], h.held[end:length/8]
	if !bytes.Equal(sum, sumOf(frame)) {
		return api.Found{Kind: api.Bad}
	}
	return api.Found{Kind: api.Good, Bytes: bytes.Clone(frame)}
}
