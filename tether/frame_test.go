package tether_test

import (
	"bytes"
	"fmt"
	"math"
	"math/rand"
	"testing"

	"tether/api"
	"tether/tether"
)

var (
	modulos = []int{8, 128}
	kinds   = []int{api.I, api.RR, api.RNR, api.REJ, api.SABM, api.DISC, api.UA, api.DM, api.FRMR}
)

func sameFrame(a, b api.Frame) bool {
	return a.Address == b.Address && a.Kind == b.Kind && a.Poll == b.Poll && a.NS == b.NS && a.NR == b.NR && bytes.Equal(a.Info, b.Info)
}

// plainInfo gives the shortest info that a kind may have.
func plainInfo(modulo, kind int) []byte {
	if kind != api.FRMR {
		return nil
	}
	return []byte("report"[:map[int]int{8: 3, 128: 5}[modulo]])
}

func checkBoth(t *testing.T, modulo int, f api.Frame, want []byte) {
	t.Helper()
	if got, e := tether.Write(modulo, f); e != api.OK || !bytes.Equal(got, want) {
		t.Errorf("P5: Write(%d, %v) = %v, %d, want %v", modulo, f, got, e, want)
	}
	if got, e := tether.Read(modulo, want); e != api.OK || !sameFrame(got, f) {
		t.Errorf("P6: Read(%d, %v) = %v, %d, want %v", modulo, want, got, e, f)
	}
}

func checkWrite(t *testing.T, modulo int, f api.Frame, want api.Errno) {
	t.Helper()
	got, e := tether.Write(modulo, f)
	if e != want || (want != api.OK && got != nil) {
		t.Errorf("P5: Write(%d, %v) = %v, %d, want error %d", modulo, f, got, e, want)
	}
}

func checkRead(t *testing.T, modulo int, b []byte, want api.Errno) {
	t.Helper()
	got, e := tether.Read(modulo, b)
	if e != want || (want != api.OK && (!sameFrame(got, api.Frame{}) || got.Info != nil)) {
		t.Errorf("P6: Read(%d, %v) = %v, %d, want error %d", modulo, b, got, e, want)
	}
}

func TestP5P6KnownFrames(t *testing.T) {
	for _, c := range []struct {
		modulo int
		f      api.Frame
		want   []byte
	}{
		{8, api.Frame{Address: 3, Kind: api.I, Poll: true, NS: 5, NR: 2, Info: []byte("a")}, []byte{3, 90, 97}},
		{8, api.Frame{Address: 1, Kind: api.I}, []byte{1, 0}},
		{8, api.Frame{Address: 1, Kind: api.I, NS: 7}, []byte{1, 14}},
		{8, api.Frame{Address: 1, Kind: api.I, NR: 7}, []byte{1, 224}},
		{8, api.Frame{Address: 3, Kind: api.RR}, []byte{3, 1}},
		{8, api.Frame{Address: 3, Kind: api.RR, Poll: true, NR: 7}, []byte{3, 241}},
		{8, api.Frame{Address: 3, Kind: api.RNR, NR: 3}, []byte{3, 101}},
		{8, api.Frame{Address: 1, Kind: api.REJ, Poll: true}, []byte{1, 25}},
		{8, api.Frame{Address: 1, Kind: api.SABM}, []byte{1, 47}},
		{8, api.Frame{Address: 3, Kind: api.SABM, Poll: true}, []byte{3, 63}},
		{8, api.Frame{Address: 3, Kind: api.DISC, Poll: true}, []byte{3, 83}},
		{8, api.Frame{Address: 3, Kind: api.UA}, []byte{3, 99}},
		{8, api.Frame{Address: 3, Kind: api.DM, Poll: true}, []byte{3, 31}},
		{8, api.Frame{Address: 3, Kind: api.FRMR, Info: []byte{0, 0, 0}}, []byte{3, 135, 0, 0, 0}},
		{8, api.Frame{Address: 1, Kind: api.FRMR, Poll: true, Info: []byte{7, 8, 9}}, []byte{1, 151, 7, 8, 9}},
		{128, api.Frame{Address: 1, Kind: api.RR, NR: 100}, []byte{1, 1, 200}},
		{128, api.Frame{Address: 1, Kind: api.I}, []byte{1, 0, 0}},
		{128, api.Frame{Address: 1, Kind: api.I, NS: 127, Info: []byte("hey")}, []byte{1, 254, 0, 'h', 'e', 'y'}},
		{128, api.Frame{Address: 3, Kind: api.I, NS: 8, NR: 127, Poll: true}, []byte{3, 16, 255}},
		{128, api.Frame{Address: 3, Kind: api.RNR, Poll: true, NR: 8}, []byte{3, 5, 17}},
		{128, api.Frame{Address: 3, Kind: api.REJ, NR: 127}, []byte{3, 9, 254}},
		{128, api.Frame{Address: 1, Kind: api.SABM}, []byte{1, 111}},
		{128, api.Frame{Address: 1, Kind: api.SABM, Poll: true}, []byte{1, 127}},
		{128, api.Frame{Address: 1, Kind: api.DISC}, []byte{1, 67}},
		{128, api.Frame{Address: 1, Kind: api.UA, Poll: true}, []byte{1, 115}},
		{128, api.Frame{Address: 1, Kind: api.DM, Poll: true}, []byte{1, 31}},
		{128, api.Frame{Address: 1, Kind: api.FRMR, Poll: true, Info: []byte{0, 0, 0, 0, 0}}, []byte{1, 151, 0, 0, 0, 0, 0}},
	} {
		checkBoth(t, c.modulo, c.f, c.want)
	}
}

// row is a row of the document's table: the byte of a kind to both modulos, and which numbers it has.
type row struct {
	kind, short, long int
	ns, nr            bool
}

var rows = []row{
	{api.I, 0, 0, true, true},
	{api.RR, 1, 1, false, true}, {api.RNR, 5, 5, false, true}, {api.REJ, 9, 9, false, true},
	{api.SABM, 47, 111, false, false},
	{api.DISC, 67, 67, false, false}, {api.UA, 99, 99, false, false},
	{api.DM, 15, 15, false, false}, {api.FRMR, 135, 135, false, false},
}

// control works a control out as the table has it.
func (r row) control(modulo, ns, nr int, poll bool) []byte {
	p := map[bool]int{true: 1}[poll]
	switch {
	case modulo == 8 && r.nr:
		return []byte{byte(r.short + 2*ns + 16*p + 32*nr)}
	case modulo == 8:
		return []byte{byte(r.short + 16*p)}
	case r.nr:
		return []byte{byte(r.long + 2*ns), byte(p + 2*nr)}
	}
	return []byte{byte(r.long + 16*p)}
}

// upTo gives the numbers that a kind may have.
func upTo(modulo int, has bool) int {
	if has {
		return modulo
	}
	return 1
}

// eachFrame goes through all frames with the shortest infos, and their bytes by the table.
func eachFrame(modulo int, visit func(f api.Frame, b []byte)) {
	for _, r := range rows {
		for ns := range upTo(modulo, r.ns) {
			for nr := range upTo(modulo, r.nr) {
				for i := range 4 {
					f := api.Frame{Address: 1 + i&2, Kind: r.kind, Poll: i&1 == 1, NS: ns, NR: nr, Info: plainInfo(modulo, r.kind)}
					b := append([]byte{byte(f.Address)}, r.control(modulo, ns, nr, f.Poll)...)
					visit(f, append(b, f.Info...))
				}
			}
		}
	}
}

func TestP5P6AllControls(t *testing.T) {
	for _, modulo := range modulos {
		count := 0
		eachFrame(modulo, func(f api.Frame, b []byte) {
			checkBoth(t, modulo, f, b)
			count++
		})
		if want := 4 * (modulo*modulo + 3*modulo + 5); count != want {
			t.Errorf("%d frames, want %d", count, want)
		}
	}
}

func TestP5Modulos(t *testing.T) {
	for _, modulo := range []int{0, 1, -1, 7, 9, 16, 64, 127, 129, 256, 264, 8 + 1<<32, -8, -128, math.MaxInt, math.MinInt} {
		for _, kind := range kinds {
			checkWrite(t, modulo, api.Frame{Address: 1, Kind: kind, Info: plainInfo(8, kind)}, api.ErrArg)
		}
		for _, b := range [][]byte{{1, 0}, {3, 63}, {1, 1, 200}, nil, {}, {0}, {2, 13}, {1}} {
			checkRead(t, modulo, b, api.ErrArg)
		}
	}
}

func TestP5Kinds(t *testing.T) {
	for _, modulo := range modulos {
		for _, kind := range []int{0, -1, 10, 11, 256 + api.RR, 1<<32 + api.RR, -api.RR, math.MaxInt, math.MinInt} {
			checkWrite(t, modulo, api.Frame{Address: 1, Kind: kind}, api.ErrArg)
		}
		for _, kind := range kinds {
			checkWrite(t, modulo, api.Frame{Address: 1, Kind: kind, Info: plainInfo(modulo, kind)}, api.OK)
		}
	}
}

func TestP5Numbers(t *testing.T) {
	for _, modulo := range modulos {
		for _, r := range rows {
			for _, n := range []int{0, 1, modulo / 2, modulo - 1, modulo, modulo + 1, 2 * modulo, 255, 256, 1 << 32, -1, -modulo, math.MaxInt, math.MinInt} {
				right := func(has bool) api.Errno {
					if n == 0 || has && n > 0 && n < modulo {
						return api.OK
					}
					return api.ErrArg
				}
				plain := api.Frame{Address: 3, Kind: r.kind, Info: plainInfo(modulo, r.kind)}
				ns, nr := plain, plain
				ns.NS, nr.NR = n, n
				checkWrite(t, modulo, ns, right(r.ns))
				checkWrite(t, modulo, nr, right(r.nr))
				if r.ns {
					ns.NR, nr.NS = modulo-1, modulo-1
					checkWrite(t, modulo, ns, right(true))
					checkWrite(t, modulo, nr, right(true))
				}
			}
		}
	}
	// Numbers of the long round are none of the short one.
	checkWrite(t, 8, api.Frame{Address: 1, Kind: api.RR, NR: 100}, api.ErrArg)
	checkWrite(t, 128, api.Frame{Address: 1, Kind: api.RR, NR: 100}, api.OK)
}

func TestP5Addresses(t *testing.T) {
	for _, modulo := range modulos {
		for _, kind := range kinds {
			for _, address := range []int{0, 2, 4, -1, -3, 5, 255, 257, 259, 1<<32 + 1, math.MaxInt, math.MinInt} {
				checkWrite(t, modulo, api.Frame{Address: address, Kind: kind, Info: plainInfo(modulo, kind)}, api.ErrAddress)
			}
		}
	}
}

// mayBe tells whether a kind may have an info of so many bytes.
func mayBe(modulo, kind, length int) bool {
	switch kind {
	case api.I:
		return length <= 32
	case api.FRMR:
		return length == map[int]int{8: 3, 128: 5}[modulo]
	}
	return length == 0
}

func TestP5P6Infos(t *testing.T) {
	lengths := []int{300, 1000, 1 << 16, 1<<16 + 3}
	for length := range 80 {
		lengths = append(lengths, length)
	}
	for _, modulo := range modulos {
		for _, r := range rows {
			for _, length := range lengths {
				info := make([]byte, length)
				for i := range info {
					info[i] = byte(i * 7)
				}
				f := api.Frame{Address: 1, Kind: r.kind, Poll: true, Info: info}
				b := append(append([]byte{1}, r.control(modulo, 0, 0, true)...), info...)
				if mayBe(modulo, r.kind, length) {
					checkBoth(t, modulo, f, b)
				} else {
					checkWrite(t, modulo, f, api.ErrInfo)
					checkRead(t, modulo, b, api.ErrInfo)
				}
			}
		}
	}
	for _, modulo := range modulos {
		checkBoth(t, modulo, api.Frame{Address: 1, Kind: api.UA, Info: []byte{}}, []byte{1, 99})
	}
}

func TestP5WhichErrorFirst(t *testing.T) {
	long := make([]byte, 33)
	for _, c := range []struct {
		name   string
		modulo int
		f      api.Frame
		want   api.Errno
	}{
		{"all is wrong", 9, api.Frame{Address: 2, Kind: 10, NS: -1, NR: -1, Info: long}, api.ErrArg},
		{"kind, address, info", 8, api.Frame{Kind: 0, Info: long}, api.ErrArg},
		{"NS, address, info", 8, api.Frame{Kind: api.I, NS: 8, Info: long}, api.ErrArg},
		{"NR, address, info", 128, api.Frame{Kind: api.I, NR: 128, Info: long}, api.ErrArg},
		{"NR of I, info", 128, api.Frame{Address: 1, Kind: api.I, NR: 128, Info: long}, api.ErrArg},
		{"NS of RR, address", 8, api.Frame{Address: 2, Kind: api.RR, NS: 1}, api.ErrArg},
		{"NS of RR, info", 8, api.Frame{Address: 1, Kind: api.RR, NS: 1, Info: long}, api.ErrArg},
		{"NR of FRMR, info", 8, api.Frame{Address: 1, Kind: api.FRMR, NR: 1}, api.ErrArg},
		{"address, info of I", 8, api.Frame{Kind: api.I, Info: long}, api.ErrAddress},
		{"address, info of FRMR", 128, api.Frame{Address: 4, Kind: api.FRMR}, api.ErrAddress},
		{"info alone", 128, api.Frame{Address: 1, Kind: api.FRMR}, api.ErrInfo},
	} {
		got, e := tether.Write(c.modulo, c.f)
		if got != nil || e != c.want {
			t.Errorf("P5: %s: Write = %v, %d, want error %d", c.name, got, e, c.want)
		}
	}
}

// firstBytes tells for each first byte of a control how many bytes it should have, by the table; those of no kind are left out.
func firstBytes(modulo int) map[byte]int {
	sizes := map[byte]int{}
	for _, r := range rows {
		for ns := range upTo(modulo, r.ns) {
			for nr := range upTo(modulo, r.nr) {
				for _, poll := range []bool{false, true} {
					c := r.control(modulo, ns, nr, poll)
					sizes[c[0]] = len(c)
				}
			}
		}
	}
	return sizes
}

// errorOf tells the error of Read by the words of the document, but for infos.
func errorOf(sizes map[byte]int, b []byte) api.Errno {
	if len(b) == 0 {
		return api.ErrShort
	}
	if b[0] != 1 && b[0] != 3 {
		return api.ErrAddress
	}
	if len(b) == 1 {
		return api.ErrShort
	}
	size, ok := sizes[b[1]]
	if !ok {
		return api.ErrControl
	}
	if len(b) < 1+size {
		return api.ErrShort
	}
	return api.ErrInfo
}

func TestP6EveryFirstControlByte(t *testing.T) {
	if got := len(firstBytes(8)); got != 128+3*16+5*2 {
		t.Errorf("%d first bytes to 8", got)
	}
	if got := len(firstBytes(128)); got != 128+3+5*2 {
		t.Errorf("%d first bytes to 128", got)
	}
	for _, modulo := range modulos {
		right := map[string]api.Frame{}
		eachFrame(modulo, func(f api.Frame, b []byte) { right[string(b)] = f })
		sizes := firstBytes(modulo)
		check := func(b []byte) {
			if f, ok := right[string(b)]; ok {
				checkBoth(t, modulo, f, b)
				return
			}
			if f, ok := right[string(b[:min(2, len(b))])]; ok && f.Kind == api.I {
				f.Info = b[2:]
				checkBoth(t, modulo, f, b)
				return
			}
			checkRead(t, modulo, b, errorOf(sizes, b))
		}
		check(nil)
		check([]byte{})
		for address := range 256 {
			check([]byte{byte(address)})
			for c := range 256 {
				check([]byte{byte(address), byte(c)})
				check([]byte{byte(address), byte(c), byte(address * c)})
			}
		}
		for c := range 1 << 16 {
			check([]byte{1, byte(c), byte(c >> 8)})
			check([]byte{3, byte(c), byte(c >> 8)})
		}
	}
}

func TestP6WhichErrorFirst(t *testing.T) {
	for _, c := range []struct {
		name   string
		modulo int
		b      []byte
		want   api.Errno
	}{
		{"modulo, nothing", 7, nil, api.ErrArg},
		{"modulo, address", 0, []byte{2}, api.ErrArg},
		{"address, no control", 8, []byte{0}, api.ErrAddress},
		{"address, control of no kind", 8, []byte{2, 13}, api.ErrAddress},
		{"address, one byte of two", 128, []byte{2, 1}, api.ErrAddress},
		{"no control", 8, []byte{1}, api.ErrShort},
		{"no control", 128, []byte{3}, api.ErrShort},
		{"control of no kind, alone", 128, []byte{3, 13}, api.ErrControl},
		{"control of no kind, too much behind it", 8, append([]byte{3, 13}, make([]byte, 60)...), api.ErrControl},
		{"RR to 8 read to 128", 128, []byte{3, 33}, api.ErrControl},
		{"RR with Poll to 8 read to 128", 128, []byte{3, 17, 0}, api.ErrControl},
		{"SABM to 8 read to 128", 128, []byte{3, 47}, api.ErrControl},
		{"SABM to 128 read to 8", 8, []byte{3, 111}, api.ErrControl},
		{"one byte of two: I", 128, []byte{3, 2}, api.ErrShort},
		{"one byte of two: RR", 128, []byte{3, 1}, api.ErrShort},
		{"RR with an info", 128, []byte{3, 1, 0, 0}, api.ErrInfo},
		{"RR with an info", 8, []byte{3, 1, 0}, api.ErrInfo},
		{"FRMR without", 8, []byte{3, 135}, api.ErrInfo},
		{"FRMR with 3 to 128", 128, []byte{3, 135, 0, 0, 0}, api.ErrInfo},
		{"FRMR with 5 to 8", 8, []byte{3, 135, 0, 0, 0, 0, 0}, api.ErrInfo},
		{"UA with an info", 8, []byte{3, 99, 0}, api.ErrInfo},
	} {
		got, e := tether.Read(c.modulo, c.b)
		if !sameFrame(got, api.Frame{}) || got.Info != nil || e != c.want {
			t.Errorf("P6: %s: Read(%d, %v) = %v, %d, want error %d", c.name, c.modulo, c.b, got, e, c.want)
		}
	}
}

func TestP6AnyBytesAreReadAsTheyAreWritten(t *testing.T) {
	r := rand.New(rand.NewSource(2))
	read := 0
	for range 200000 {
		b := make([]byte, r.Intn(40))
		r.Read(b)
		if len(b) > 0 {
			b[0] = byte(1 + r.Intn(2)*2)
		}
		modulo := modulos[r.Intn(2)]
		f, e := tether.Read(modulo, b)
		if e != api.OK {
			continue
		}
		read++
		if again, e := tether.Write(modulo, f); e != api.OK || !bytes.Equal(again, b) {
			t.Fatalf("P6: Read(%d, %v) = %v, which is written %v, %d", modulo, b, f, again, e)
		}
	}
	if read < 1000 {
		t.Errorf("only %d were read", read)
	}
}

func TestP16ReadOfWrite(t *testing.T) {
	r := rand.New(rand.NewSource(3))
	for range 200000 {
		modulo := modulos[r.Intn(2)]
		kind := rows[r.Intn(len(rows))]
		f := api.Frame{Address: 1 + 2*r.Intn(2), Kind: kind.kind, Poll: r.Intn(2) == 1,
			NS: r.Intn(upTo(modulo, kind.ns)), NR: r.Intn(upTo(modulo, kind.nr)), Info: plainInfo(modulo, kind.kind)}
		if kind.ns {
			f.Info = make([]byte, r.Intn(33))
		}
		r.Read(f.Info)
		b, e := tether.Write(modulo, f)
		if e != api.OK || len(b) > api.MaxFrame {
			t.Fatalf("P5: Write(%d, %v) = %v, %d", modulo, f, b, e)
		}
		if got, e := tether.Read(modulo, b); e != api.OK || !sameFrame(got, f) {
			t.Fatalf("P16: Read of Write(%d, %v) = %v, %d", modulo, f, got, e)
		}
	}
}

func TestP16FramesOverTheLine(t *testing.T) {
	for _, modulo := range modulos {
		var frames [][]byte
		want := ""
		for _, kind := range kinds {
			b, e := tether.Write(modulo, api.Frame{Address: 3, Kind: kind, Poll: true, Info: plainInfo(modulo, kind)})
			if e != api.OK {
				t.Fatalf("P5: Write of kind %d: error %d", kind, e)
			}
			frames = append(frames, b)
			want += fmt.Sprintf(" good%v", b)
		}
		feed(t, tether.NewHunter(), mustBits(t, frames...), want[1:])
	}
}
