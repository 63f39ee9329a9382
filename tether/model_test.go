package tether_test

import (
	"bytes"
	"fmt"
	"math/rand"
	"slices"
	"testing"

	"tether/api"
	"tether/tether"
)

// model: a station by the words of the document. Its numbers go on and on from when it started over, and go round only where they are told: message n is log[n], and the queue is what stands there from VA on.
type model struct {
	c                 api.Config
	state             int
	vs, va, vr, vm    int
	log               []string
	timer, tries      int
	polling, peerBusy bool
	busy, rejected    bool
	came              []string
	out               []api.Frame
	events            []int
}

func (m *model) startOver() {
	*m = model{c: m.c, state: m.state, busy: m.busy, came: m.came, out: m.out, events: m.events}
}

func (m *model) goDown() {
	m.startOver()
	m.state = api.Down
}

func (m *model) tell(event int) { m.events = append(m.events, event) }

func (m *model) command(f api.Frame) {
	f.Address = 4 - m.c.Address
	m.out = append(m.out, f)
}

func (m *model) respond(f api.Frame) {
	f.Address = m.c.Address
	m.out = append(m.out, f)
}

func (m *model) heldUp() bool { return m.busy || len(m.came) == m.c.Room }

func (m *model) ready(poll bool) api.Frame {
	f := api.Frame{Kind: api.RR, Poll: poll, NR: m.vr % m.c.Modulo}
	if m.heldUp() {
		f.Kind = api.RNR
	}
	return f
}

func (m *model) answer(poll bool) { m.respond(m.ready(poll)) }

func (m *model) ask(state, kind int) {
	m.startOver()
	m.state, m.tries, m.timer = state, 1, m.c.Timer
	m.command(api.Frame{Kind: kind, Poll: true})
}

func (m *model) pump() {
	for !m.peerBusy && !m.polling && m.vs < len(m.log) && m.vs < m.va+m.c.Window {
		m.command(api.Frame{Kind: api.I, NS: m.vs % m.c.Modulo, NR: m.vr % m.c.Modulo, Info: []byte(m.log[m.vs])})
		m.vs++
		m.vm = max(m.vm, m.vs)
	}
	if m.polling {
		return
	}
	if m.va == m.vm && !m.peerBusy {
		m.timer = 0
	} else if m.timer == 0 {
		m.timer, m.tries = m.c.Timer, 1
	}
}

func (m *model) connect() api.Errno {
	if m.state != api.Down && m.state != api.Broken {
		return api.ErrState
	}
	m.ask(api.Calling, api.SABM)
	return api.OK
}

func (m *model) disconnect() api.Errno {
	if m.state == api.Down || m.state == api.Leaving {
		return api.ErrState
	}
	m.ask(api.Leaving, api.DISC)
	return api.OK
}

func (m *model) send(info string) api.Errno {
	if m.state != api.Up {
		return api.ErrState
	}
	if len(info) > 32 {
		return api.ErrArg
	}
	if len(m.log)-m.va == 20 {
		return api.ErrFull
	}
	m.log = append(m.log, info)
	m.pump()
	return api.OK
}

func (m *model) setBusy(on bool) {
	was := m.heldUp()
	m.busy = on
	if m.state == api.Up && was != m.heldUp() {
		m.answer(false)
	}
}

func (m *model) taken() []string {
	was, came := m.heldUp(), m.came
	m.came = nil
	if m.state == api.Up && was && !m.heldUp() {
		m.answer(false)
	}
	return came
}

func (m *model) tick() {
	if m.timer == 0 {
		return
	}
	m.timer--
	if m.timer > 0 {
		return
	}
	if m.tries == m.c.Tries {
		m.tell(api.Failed)
		m.goDown()
		return
	}
	m.tries++
	m.timer = m.c.Timer
	switch m.state {
	case api.Calling:
		m.command(api.Frame{Kind: api.SABM, Poll: true})
	case api.Leaving:
		m.command(api.Frame{Kind: api.DISC, Poll: true})
	case api.Up:
		m.polling = true
		m.command(m.ready(true))
	}
}

// rulesOfSetup: of each state, what SABM, DISC, UA, DM and FRMR do.
var rulesOfSetup = []struct {
	state, kind int
	needsPoll   bool
	sent        int // with the frame's own Poll; 0: nothing
	over        bool
	then, event int
}{
	{api.Down, api.SABM, false, api.UA, true, api.Up, api.Connected},
	{api.Down, api.DISC, false, api.DM, false, 0, 0},
	{api.Calling, api.SABM, false, api.UA, false, 0, 0},
	{api.Calling, api.DISC, false, api.DM, false, 0, 0},
	{api.Calling, api.UA, true, 0, true, api.Up, api.Connected},
	{api.Calling, api.DM, true, 0, true, api.Down, api.Failed},
	{api.Leaving, api.SABM, false, api.DM, false, 0, 0},
	{api.Leaving, api.DISC, false, api.UA, false, 0, 0},
	{api.Leaving, api.UA, true, 0, true, api.Down, api.Disconnected},
	{api.Leaving, api.DM, true, 0, true, api.Down, api.Disconnected},
	{api.Broken, api.SABM, false, api.UA, true, api.Up, api.Reset},
	{api.Broken, api.DISC, false, api.UA, true, api.Down, api.Disconnected},
	{api.Broken, api.DM, false, 0, true, api.Down, api.Disconnected},
	{api.Up, api.SABM, false, api.UA, true, api.Up, api.Reset},
	{api.Up, api.DISC, false, api.UA, true, api.Down, api.Disconnected},
	{api.Up, api.DM, false, 0, true, api.Down, api.Disconnected},
	{api.Up, api.UA, false, 0, true, api.Calling, api.Reset},
	{api.Up, api.FRMR, false, 0, true, api.Calling, api.Reset},
}

func (m *model) hear(f api.Frame) {
	isCommand := f.Address == m.c.Address
	switch f.Kind {
	case api.RR, api.RNR, api.REJ:
		m.hearNumbered(f, isCommand)
	case api.I:
		if isCommand {
			m.hearNumbered(f, true)
		}
	case api.SABM, api.DISC:
		if isCommand {
			m.hearSetup(f)
		}
	default:
		if !isCommand {
			m.hearSetup(f)
		}
	}
}

func (m *model) hearSetup(f api.Frame) {
	for _, r := range rulesOfSetup {
		if r.state != m.state || r.kind != f.Kind || r.needsPoll && !f.Poll {
			continue
		}
		if r.sent != 0 {
			m.respond(api.Frame{Kind: r.sent, Poll: f.Poll})
		}
		if r.event != 0 {
			m.tell(r.event)
		}
		if r.over {
			m.startOver()
			m.state = r.then
		}
		if r.then == api.Calling {
			m.ask(api.Calling, api.SABM)
		}
		return
	}
}

func (m *model) hearNumbered(f api.Frame, isCommand bool) {
	switch {
	case m.state == api.Down && isCommand && f.Poll:
		m.respond(api.Frame{Kind: api.DM, Poll: true})
	case m.state == api.Broken && isCommand:
		m.report(f.Poll)
	case m.state == api.Up:
		m.hearNR(f, isCommand)
	}
}

func (m *model) report(poll bool) {
	m.respond(api.Frame{Kind: api.FRMR, Poll: poll, Info: make([]byte, map[int]int{8: 3, 128: 5}[m.c.Modulo])})
}

func (m *model) hearNR(f api.Frame, isCommand bool) {
	nr := m.va
	for nr <= m.vm && nr%m.c.Modulo != f.NR {
		nr++
	}
	if nr > m.vm {
		m.startOver()
		m.state = api.Broken
		m.report(isCommand && f.Poll)
		m.tell(api.Reset)
		return
	}
	if nr > m.va && !m.polling {
		m.timer = 0
	}
	m.va, m.vs = nr, max(m.vs, nr)
	if f.Kind == api.I {
		m.hearMessage(f)
	} else {
		m.hearReady(f, isCommand)
	}
	m.pump()
}

func (m *model) hearReady(f api.Frame, isCommand bool) {
	m.peerBusy = f.Kind == api.RNR
	if f.Kind == api.REJ {
		m.vs = m.va
	}
	if !isCommand && f.Poll && m.polling {
		m.polling, m.vs, m.timer = false, m.va, 0
	}
	if isCommand && f.Poll {
		m.answer(true)
	}
}

func (m *model) hearMessage(f api.Frame) {
	if m.heldUp() {
		m.answer(f.Poll)
		return
	}
	if f.NS == m.vr%m.c.Modulo {
		m.vr++
		m.came = append(m.came, string(f.Info))
		m.rejected = false
		m.answer(f.Poll)
		return
	}
	if !m.rejected {
		m.rejected = true
		m.respond(api.Frame{Kind: api.REJ, Poll: f.Poll, NR: m.vr % m.c.Modulo})
		return
	}
	if f.Poll {
		m.answer(true)
	}
}

func (m *model) view() api.View {
	round := m.c.Modulo
	return api.View{
		State: m.state, VS: m.vs % round, VA: m.va % round, VR: m.vr % round,
		Timer: m.timer, Tries: m.tries, Polling: m.polling, PeerBusy: m.peerBusy, Busy: m.busy,
		Queued: len(m.log) - m.va, Came: len(m.came),
	}
}

// double: a station and its model, to which the same is done.
type double struct {
	t    *testing.T
	what string
	s    *tether.Station
	m    *model
}

func newDouble(t *testing.T, what string, c api.Config) *double {
	t.Helper()
	return &double{t: t, what: fmt.Sprintf("%s, %+v", what, c), s: mustNew(t, c), m: &model{c: c}}
}

func (d *double) checkView() {
	d.t.Helper()
	if got, e := d.s.View(); e != api.OK || got != d.m.view() {
		d.t.Fatalf("%s: View() = %+v, %d, want %+v", d.what, got, e, d.m.view())
	}
}

// checkOut compares what is to be sent, and spoils it.
func (d *double) checkOut() {
	d.t.Helper()
	var want [][]byte
	for _, f := range d.m.out {
		b, e := tether.Write(d.m.c.Modulo, f)
		if e != api.OK {
			d.t.Fatalf("%s: Write(%+v): error %d", d.what, f, e)
		}
		want = append(want, b)
	}
	d.m.out = nil
	got, e := d.s.Out()
	if e != api.OK || !slices.EqualFunc(got, want, bytes.Equal) {
		d.t.Fatalf("%s: Out() = %v, %d, want %v", d.what, got, e, want)
	}
	spoilFrames(got)
}

func (d *double) checkEvents() {
	d.t.Helper()
	if got, e := d.s.Events(); e != api.OK || !slices.Equal(got, d.m.events) {
		d.t.Fatalf("%s: Events() = %v, %d, want %v", d.what, got, e, d.m.events)
	}
	d.m.events = nil
}

func (d *double) checkTaken() {
	d.t.Helper()
	want := d.m.taken()
	got, e := d.s.Taken()
	same := slices.EqualFunc(got, want, func(b []byte, text string) bool { return string(b) == text })
	if e != api.OK || !same {
		d.t.Fatalf("%s: Taken() = %q, %d, want %q", d.what, got, e, want)
	}
	spoilFrames(got)
}

func (d *double) send(info string) {
	d.t.Helper()
	b := roomy(info)
	checkErrno(d.t, d.what+": Send", d.s.Send(b), d.m.send(info))
	checkRoom(d.t, b, info)
	spoilBytes(b)
}

func (d *double) hear(f api.Frame) {
	d.t.Helper()
	b, e := tether.Write(d.m.c.Modulo, f)
	if e != api.OK {
		d.t.Fatalf("%s: Write(%+v): error %d", d.what, f, e)
	}
	d.m.hear(f)
	b = roomy(string(b))
	checkErrno(d.t, d.what+": Hear", d.s.Hear(b), api.OK)
	spoilBytes(b)
}

// likely gives a frame of which the numbers are mostly those that are waited for, or next to them.
func (d *double) likely(source *rand.Rand) api.Frame {
	m := d.m
	if m.state != api.Up && source.Intn(3) == 0 {
		return api.Frame{Address: m.c.Address, Kind: api.SABM, Poll: source.Intn(2) == 0}
	}
	f := api.Frame{Address: 1 + 2*source.Intn(2), Poll: source.Intn(3) == 0}
	switch n := source.Intn(200); {
	case n < 70:
		f.Kind, f.Address = api.I, m.c.Address
	case n < 198 && m.state == api.Up:
		f.Kind = []int{api.RR, api.RR, api.RNR, api.REJ}[n%4]
	default:
		f.Kind = api.I + source.Intn(9)
	}
	switch f.Kind {
	case api.I:
		f.NS = m.vr + []int{0, 0, 0, 0, 1, 2, -1}[source.Intn(7)]
		f.Info = []byte(noisyInfo(source, 32))
	case api.FRMR:
		f.Info = plainInfo(m.c.Modulo, api.FRMR)
	}
	if f.Kind <= api.REJ {
		f.NR = m.va + source.Intn(m.vm-m.va+1)
	}
	if f.Kind <= api.REJ && source.Intn(100) == 0 {
		f.NR += source.Intn(5) - 2
	}
	f.NS, f.NR = (f.NS+m.c.Modulo)%m.c.Modulo, (f.NR+m.c.Modulo)%m.c.Modulo
	return f
}

func noisyInfo(source *rand.Rand, most int) string {
	b := make([]byte, source.Intn(most+1))
	source.Read(b)
	return string(b)
}

// step does one thing at random, and looks at all that it changed.
func (d *double) step(source *rand.Rand) {
	d.t.Helper()
	switch n := source.Intn(1000); {
	case n < 250:
		d.send(noisyInfo(source, 33))
	case n < 650:
		d.hear(d.likely(source))
	case n < 800:
		checkErrno(d.t, d.what+": Tick", d.s.Tick(), api.OK)
		d.m.tick()
	case n < 850:
		on := source.Intn(3) == 0
		checkErrno(d.t, d.what+": Busy", d.s.Busy(on), api.OK)
		d.m.setBusy(on)
	case n < 920:
		d.checkTaken()
	case n < 925:
		checkErrno(d.t, d.what+": Connect", d.s.Connect(), d.m.connect())
	case n < 926:
		checkErrno(d.t, d.what+": Disconnect", d.s.Disconnect(), d.m.disconnect())
	case n < 970:
		d.checkOut()
	default:
		d.checkEvents()
	}
	d.checkView()
}

func anyConfig(source *rand.Rand, address int) api.Config {
	modulo := modulos[source.Intn(2)]
	return config(modulo, 1+source.Intn(min(modulo-1, api.MaxWindow)), 1+source.Intn(8), 1+source.Intn(10), 1+source.Intn(5), address)
}

// Four stations by turns, each as its model, with all that was handed in or came out written into.
func TestP1P9ToP15AgainstTheWords(t *testing.T) {
	source := rand.New(rand.NewSource(11))
	for run := range 150 {
		var doubles []*double
		for range 4 {
			doubles = append(doubles, newDouble(t, fmt.Sprintf("P9 to P15, run %d", run), anyConfig(source, 1+2*source.Intn(2))))
		}
		for range 2500 {
			doubles[source.Intn(len(doubles))].step(source)
		}
		for _, d := range doubles {
			d.checkOut()
			d.checkEvents()
			d.checkTaken()
			d.checkView()
		}
		if t.Failed() {
			return
		}
	}
}
