package tether

import (
	"slices"

	"tether/api"
)

// Numbers of messages go round at one of these.
const (
	shortRound = 8
	longRound  = 128
)

const (
	firstAddress = 1
	otherAddress = 3

	controlAt = 1  // the place of the control's first byte
	pollBit   = 16 // in a control of one byte
	longPoll  = 1  // in the second byte of two

	longSABM = 111 // to the long round SABM has a control of its own
)

// controls: what the first byte of a kind's control is without numbers and Poll.
var controls = [...]byte{
	api.I:    0,
	api.RR:   1,
	api.RNR:  5,
	api.REJ:  9,
	api.SABM: 47,
	api.DISC: 67,
	api.UA:   99,
	api.DM:   15,
	api.FRMR: 135,
}

// Write writes a frame (P5).
func Write(modulo int, f api.Frame) ([]byte, api.Errno) {
	switch {
	case !isModulo(modulo) || !isKind(f.Kind) || !numbersFit(modulo, f):
		return nil, api.ErrArg
	case !isAddress(f.Address):
		return nil, api.ErrAddress
	case !infoFits(modulo, f.Kind, len(f.Info)):
		return nil, api.ErrInfo
	}
	return slices.Concat([]byte{byte(f.Address)}, control(modulo, f), f.Info), api.OK
}

// Read reads a frame (P6).
func Read(modulo int, b []byte) (api.Frame, api.Errno) {
	kind, e := readKind(modulo, b)
	if e != api.OK {
		return api.Frame{}, e
	}
	infoAt := controlAt + controlBytes(modulo, kind)
	if len(b) < infoAt {
		return api.Frame{}, api.ErrShort
	}
	if !infoFits(modulo, kind, len(b)-infoAt) {
		return api.Frame{}, api.ErrInfo
	}
	f := readControl(modulo, kind, b[controlAt:infoAt])
	f.Address = int(b[0])
	f.Info = append(f.Info, b[infoAt:]...)
	return f, api.OK
}

// readKind reads as far as the first byte of the control.
func readKind(modulo int, b []byte) (int, api.Errno) {
	switch {
	case !isModulo(modulo):
		return 0, api.ErrArg
	case len(b) == 0:
		return 0, api.ErrShort
	case !isAddress(int(b[0])):
		return 0, api.ErrAddress
	case len(b) == controlAt:
		return 0, api.ErrShort
	}
	for kind := api.I; kind <= api.FRMR; kind++ {
		if b[controlAt]&kindBits(modulo, kind) == plainControl(modulo, kind) {
			return kind, api.OK
		}
	}
	return 0, api.ErrControl
}

// readControl reads what a whole control tells of Poll and numbers.
func readControl(modulo, kind int, c []byte) api.Frame {
	f := api.Frame{Kind: kind, Poll: c[0]&pollBit != 0}
	if hasNS(kind) {
		f.NS = int(c[0]>>1) % modulo
	}
	switch {
	case !hasNR(kind):
	case modulo == shortRound:
		f.NR = int(c[0] >> 5)
	default:
		f.Poll, f.NR = c[1]&longPoll != 0, int(c[1]>>1)
	}
	return f
}

// control writes the control of a frame whose kind and numbers fit.
func control(modulo int, f api.Frame) []byte {
	first := plainControl(modulo, f.Kind) + byte(2*f.NS)
	if controlBytes(modulo, f.Kind) == 2 {
		return []byte{first, bitIf(f.Poll, longPoll) + byte(2*f.NR)}
	}
	return []byte{first + bitIf(f.Poll, pollBit) + byte(32*f.NR)}
}

func bitIf(on bool, bit byte) byte {
	if on {
		return bit
	}
	return 0
}

func plainControl(modulo, kind int) byte {
	if kind == api.SABM && modulo == longRound {
		return longSABM
	}
	return controls[kind]
}

// kindBits tells which bits of a control's first byte are those of a kind; the others are of numbers and Poll.
func kindBits(modulo, kind int) byte {
	switch {
	case hasNS(kind):
		return 1
	case !hasNR(kind):
		return 0xFF - pollBit
	case modulo == shortRound:
		return 0x0F
	}
	return 0xFF
}

func controlBytes(modulo, kind int) int {
	if modulo == longRound && hasNR(kind) {
		return 2
	}
	return 1
}

func isModulo(n int) bool { return n == shortRound || n == longRound }

func isAddress(n int) bool { return n == firstAddress || n == otherAddress }

func isKind(n int) bool { return n >= api.I && n <= api.FRMR }

func hasNS(kind int) bool { return kind == api.I }

func hasNR(kind int) bool { return kind >= api.I && kind <= api.REJ }

func numbersFit(modulo int, f api.Frame) bool {
	return numberFits(modulo, f.NS, hasNS(f.Kind)) && numberFits(modulo, f.NR, hasNR(f.Kind))
}

func numberFits(modulo, n int, has bool) bool {
	if !has {
		return n == 0
	}
	return n >= 0 && n < modulo
}

func infoFits(modulo, kind, length int) bool {
	switch kind {
	case api.I:
		return length <= api.MaxInfo
	case api.FRMR:
		return length == reportBytes(modulo)
	}
	return length == 0
}

// reportBytes tells how long the info of FRMR is.
func reportBytes(modulo int) int {
	if modulo == shortRound {
		return 3
	}
	return 5
}
