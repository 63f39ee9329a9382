package tether_test

import (
	"bytes"
	"fmt"
	"slices"
	"strconv"
	"strings"
	"testing"

	"tether/api"
	"tether/tether"
)

// Frames stand as texts in the tests of messages: "command I! 3 5 abc" is an I that is a command, with Poll, NS 3, NR 5 and the info abc; "response RR 5" has no Poll, and NR 5.

const (
	ours   = 3 // the address of the station that is looked at
	theirs = 1
)

var kindNames = []string{api.I: "I", api.RR: "RR", api.RNR: "RNR", api.REJ: "REJ", api.SABM: "SABM", api.DISC: "DISC", api.UA: "UA", api.DM: "DM", api.FRMR: "FRMR"}

// frameOf gives the bytes of a text, as the station of an address sends it.
func frameOf(t *testing.T, modulo, sender int, text string) []byte {
	t.Helper()
	words := strings.Fields(text)
	name, poll := strings.CutSuffix(words[1], "!")
	f := api.Frame{Address: sender, Kind: slices.Index(kindNames, name), Poll: poll}
	if f.Kind == api.FRMR {
		f.Info = make([]byte, map[int]int{8: 3, 128: 5}[modulo])
	}
	if words[0] == "command" {
		f.Address = 4 - sender
	}
	var numbers []int
	for words = words[2:]; len(words) > 0 && len(numbers) < map[int]int{api.I: 2, api.RR: 1, api.RNR: 1, api.REJ: 1}[f.Kind]; words = words[1:] {
		n, err := strconv.Atoi(words[0])
		if err != nil {
			t.Fatalf("%q is no frame", text)
		}
		numbers = append(numbers, n)
	}
	switch len(numbers) {
	case 1:
		f.NR = numbers[0]
	case 2:
		f.NS, f.NR = numbers[0], numbers[1]
	}
	if len(words) > 0 {
		f.Info = []byte(words[0])
	}
	b, e := tether.Write(modulo, f)
	if e != api.OK {
		t.Fatalf("%q is no frame: error %d", text, e)
	}
	return b
}

// probe: a station of address 3, to be asked and looked at.
type probe struct {
	t    *testing.T
	what string
	c    api.Config
	s    *tether.Station
}

func newProbe(t *testing.T, what string, c api.Config) *probe {
	t.Helper()
	c.Address = ours
	return &probe{t: t, what: what, c: c, s: mustNew(t, c)}
}

// up gives a station that was called, and has told so.
func up(t *testing.T, what string, c api.Config) *probe {
	t.Helper()
	p := newProbe(t, what, c)
	p.hears("command SABM!")
	p.sent("response UA!")
	p.told(api.Connected)
	return p
}

// small: 3 messages may be on their way, and 2 may wait that came.
func small(modulo int) api.Config { return config(modulo, 3, 5, 4, 2, ours) }

func (p *probe) hears(texts ...string) {
	p.t.Helper()
	for _, text := range texts {
		checkErrno(p.t, p.what+": Hear "+text, p.s.Hear(frameOf(p.t, p.c.Modulo, theirs, text)), api.OK)
	}
}

func (p *probe) sends(infos ...string) {
	p.t.Helper()
	for _, info := range infos {
		checkErrno(p.t, p.what+": Send "+info, p.s.Send([]byte(info)), api.OK)
	}
}

func (p *probe) ticks(times int) {
	p.t.Helper()
	tick(p.t, p.s, times)
}

func (p *probe) busy(on bool) {
	p.t.Helper()
	checkErrno(p.t, p.what+": Busy", p.s.Busy(on), api.OK)
}

// sent compares what is to be sent.
func (p *probe) sent(want ...string) {
	p.t.Helper()
	var frames [][]byte
	for _, text := range want {
		frames = append(frames, frameOf(p.t, p.c.Modulo, ours, text))
	}
	if got, e := p.s.Out(); e != api.OK || !slices.EqualFunc(got, frames, bytes.Equal) {
		p.t.Errorf("%s: Out() = %v, %d, want %v (%s)", p.what, got, e, frames, strings.Join(want, ", "))
	}
}

func (p *probe) told(want ...int) {
	p.t.Helper()
	if got, e := p.s.Events(); e != api.OK || !slices.Equal(got, want) {
		p.t.Errorf("%s: Events() = %v, %d, want %v", p.what, got, e, want)
	}
}

func (p *probe) takes(want ...string) {
	p.t.Helper()
	messages, e := p.s.Taken()
	var got []string
	for _, m := range messages {
		got = append(got, string(m))
	}
	if e != api.OK || !slices.Equal(got, want) {
		p.t.Errorf("%s: Taken() = %q, %d, want %q", p.what, got, e, want)
	}
}

func (p *probe) view() api.View {
	p.t.Helper()
	v, e := p.s.View()
	if e != api.OK {
		p.t.Fatalf("%s: View: error %d", p.what, e)
	}
	return v
}

func (p *probe) is(want api.View) {
	p.t.Helper()
	if got := p.view(); got != want {
		p.t.Errorf("%s: View() = %+v, want %+v", p.what, got, want)
	}
}

// moveOn has messages go there and back, till VS and VA, which were 0, are one number, and VR is another.
func (p *probe) moveOn(vs, vr int) {
	p.t.Helper()
	for range vs {
		p.sends("x")
		p.hears(fmt.Sprint("response RR ", p.view().VS))
	}
	for range vr - p.view().VR {
		p.hears(fmt.Sprint("command I ", p.view().VR, p.view().VA, " y"))
		p.takes("y")
	}
	p.s.Out()
	if v := p.view(); v.VS != vs || v.VA != vs || v.VR != vr || v.Timer != 0 || v.State != api.Up {
		p.t.Fatalf("%s: View() = %+v, want VS %d and VR %d", p.what, v, vs, vr)
	}
}

// letters gives a message a letter.
func letters(text string) []string { return strings.Split(text, "") }
