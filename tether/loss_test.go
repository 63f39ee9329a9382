package tether_test

import (
	"fmt"
	"math/rand"
	"slices"
	"testing"

	"tether/api"
	"tether/tether"
)

// world: two stations that go together, and what is on its way between them.
type world struct {
	t       *testing.T
	what    string
	c       api.Config
	ends    [2]*tether.Station
	flights [2][][]byte // of each end the frames that it has sent, and that were neither heard nor lost
	sent    [2][]string
	took    [2][]string // of each end, what the other one has taken
	told    [2][]int    // beside the first Connected
}

func newWorld(t *testing.T, what string, c api.Config) *world {
	t.Helper()
	w := &world{t: t, what: what, c: c}
	for i, address := range []int{3, 1} {
		c.Address = address
		w.ends[i] = mustNew(t, c)
	}
	checkErrno(t, "P8: Connect", w.ends[0].Connect(), api.OK)
	for i := range w.ends {
		w.collect(i)
		w.deliver(i)
	}
	checkEvents(t, w.ends[0], api.Connected)
	checkEvents(t, w.ends[1], api.Connected)
	return w
}

func (w *world) view(i int) api.View {
	v, _ := w.ends[i].View()
	return v
}

func (w *world) send(i int) {
	text := fmt.Sprintf("%d of %d", len(w.sent[i]), i)
	if e := w.ends[i].Send([]byte(text)); e == api.OK {
		w.sent[i] = append(w.sent[i], text)
	}
}

func (w *world) collect(i int) {
	frames, _ := w.ends[i].Out()
	w.flights[i] = append(w.flights[i], frames...)
}

// deliver hands over the oldest frame of an end.
func (w *world) deliver(i int) {
	if f, ok := w.lose(i); ok {
		hear(w.t, w.ends[1-i], f)
	}
}

func (w *world) lose(i int) ([]byte, bool) {
	if len(w.flights[i]) == 0 {
		return nil, false
	}
	f := w.flights[i][0]
	w.flights[i] = w.flights[i][1:]
	return f, true
}

// take takes what came to an end, and looks whether it is what was sent.
func (w *world) take(i int) {
	messages, _ := w.ends[i].Taken()
	for _, m := range messages {
		w.took[1-i] = append(w.took[1-i], string(m))
	}
	took, sent := w.took[1-i], w.sent[1-i]
	if len(took) > len(sent) || !slices.Equal(took, sent[:len(took)]) {
		w.t.Fatalf("P17: %s: taken %q, sent %q", w.what, took, sent)
	}
}

// quiet tells whether neither has told an event.
func (w *world) quiet() bool {
	for i, s := range w.ends {
		events, _ := s.Events()
		w.told[i] = append(w.told[i], events...)
	}
	return len(w.told[0])+len(w.told[1]) == 0
}

// stumble does one thing at random; of a hundred frames some are lost.
func (w *world) stumble(source *rand.Rand, lost int) {
	i := source.Intn(2)
	switch n := source.Intn(20); {
	case n < 4:
		w.send(i)
	case n < 14:
		w.collect(i)
		if source.Intn(100) < lost {
			w.lose(i)
		} else {
			w.deliver(i)
		}
	case n < 16:
		w.take(i)
	case n < 17:
		checkErrno(w.t, "P9: Busy", w.ends[i].Busy(source.Intn(2) == 0), api.OK)
	default:
		tick(w.t, w.ends[i], 1)
	}
}

// handOver hands over frames both ways till there are none; what comes is taken often, behind each frame, or behind all of one end.
func (w *world) handOver(often bool) {
	for range 1000 {
		moved := false
		for i := range w.ends {
			w.collect(i)
			for len(w.flights[i]) > 0 {
				w.deliver(i)
				moved = true
				if often {
					w.take(1 - i)
				}
			}
			w.take(1 - i)
		}
		if !moved {
			return
		}
	}
	w.t.Fatalf("P18: %s: frames are handed over without end", w.what)
}

// settle has as many rounds go by as P18 says, and tells whether they went by without an event.
func (w *world) settle(often bool) bool {
	for i := range w.ends {
		checkErrno(w.t, "P9: Busy", w.ends[i].Busy(false), api.OK)
	}
	for i := range w.ends {
		w.take(i)
	}
	rounds := w.view(0).Queued + w.view(1).Queued + 3
	for range rounds {
		for range w.c.Timer {
			tick(w.t, w.ends[0], 1)
			tick(w.t, w.ends[1], 1)
		}
		w.handOver(often)
	}
	return w.quiet()
}

func (w *world) checkAllCame() {
	for i := range w.ends {
		if !slices.Equal(w.took[i], w.sent[i]) {
			w.t.Errorf("P18: %s: of end %d %d messages came, %d were sent (%+v, %+v)", w.what, i, len(w.took[i]), len(w.sent[i]), w.view(0), w.view(1))
		}
	}
}

// lossyConfig: small rooms and windows are as likely as all the others.
func lossyConfig(source *rand.Rand) api.Config {
	c := anyConfig(source, ours)
	c.Tries = api.MaxTries
	if source.Intn(2) == 0 {
		c.Room = 1 + source.Intn(api.MaxRoom)
	}
	return c
}

// Frames are lost both ways, none of them to all of them; then none any more.
func TestP17P18FramesThatAreLost(t *testing.T) {
	settled := 0
	for seed := range int64(3000) {
		source := rand.New(rand.NewSource(seed))
		c := lossyConfig(source)
		w := newWorld(t, fmt.Sprintf("seed %d, %+v", seed, c), c)
		lost, steps := source.Intn(101), source.Intn(1000)
		for steps > 0 && w.quiet() {
			w.stumble(source, lost)
			steps--
		}
		if !w.quiet() {
			continue // it failed while frames were lost: nothing is promised of it
		}
		tries := max(w.view(0).Tries, w.view(1).Tries)
		if w.settle(seed%2 == 0) {
			settled++
			w.checkAllCame()
		} else if tries < c.Tries {
			t.Errorf("P18: %s: events %v, though TRIES was %d", w.what, w.told, tries)
		}
	}
	if settled < 1000 {
		t.Errorf("P18: %d runs came to their end", settled)
	}
}

// At each of ten turns a frame is lost or not: in all the ways there are.
func TestP17P18EachChoiceOfLostFrames(t *testing.T) {
	const choices = 10
	for lost := range 1 << choices {
		for _, window := range []int{1, 2, 7} {
			w := newWorld(t, fmt.Sprintf("lost %010b, window %d", lost, window), config(8, window, 3, api.MaxTries, 1+lost%3, ours))
			for range 3 {
				w.send(0)
				w.send(1)
			}
			for n := 0; n < choices; {
				for i := range w.ends {
					w.collect(i)
					if lost>>n&1 == 1 {
						w.lose(i)
					} else {
						w.deliver(i)
					}
					w.take(1 - i)
					tick(t, w.ends[i], 1)
					n++
				}
			}
			if !w.settle(true) {
				t.Errorf("P18: %s: events %v", w.what, w.told)
			}
			w.checkAllCame()
		}
	}
}

// Messages go both ways all the time, and are more than numbers go round, with nothing lost.
func TestP17P18NothingIsLost(t *testing.T) {
	for _, modulo := range modulos {
		w := newWorld(t, fmt.Sprintf("modulo %d", modulo), config(modulo, 7, 3, 2, 4, ours))
		for range 3 * modulo {
			w.send(0)
			w.send(1)
			w.send(1)
			w.handOver(true)
		}
		if !w.quiet() || len(w.sent[0]) != 3*modulo || len(w.sent[1]) != 6*modulo {
			t.Errorf("P17: %s: events %v, sent %d and %d", w.what, w.told, len(w.sent[0]), len(w.sent[1]))
		}
		w.checkAllCame()
	}
}
