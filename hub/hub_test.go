package hub

import (
	"math"
	"slices"
	"strings"
	"testing"

	"plugtree/api"
	"plugtree/setup"
)

// far are numbers that are out of all bounds, many of them such that their lower bits are within.
var far = []int{-1, -2, -8, -15, -16, -255, -256, -257, 32, 64, 128, 255, 512, 513, 1 << 16, 1<<16 + 1, 1<<16 + 256, 1<<31 + 1, 1 << 32, 1<<32 + 1, 1<<32 + 2, 1<<32 + 15, 1<<32 + 256, 1<<32 + 257, 1 << 62, 1<<62 + 1, math.MinInt, math.MinInt + 1, math.MinInt + 256, math.MinInt + 257, math.MinInt32, math.MaxInt}

// dice are numbers that are the same in each run.
type dice struct{ n uint64 }

func (d *dice) below(most int) int {
	d.n = d.n*6364136223846793005 + 1442695040888963407
	return int(d.n>>33) % most
}

func (d *dice) text(size int) string {
	text := make([]byte, size)
	for i := range text {
		text[i] = byte(d.below(256))
	}
	return string(text)
}

// rightPorts are all ports that may be.
func rightPorts() []api.Port {
	var list []api.Port
	for _, status := range []int{0, 256, 257, 259, 273} {
		for _, change := range []int{0, 1, 2, 3, 16, 17, 18, 19} {
			list = append(list, api.Port{Status: status, Change: change})
		}
	}
	return list
}

// thrown is a hub with so many ports, with which nothing is wrong.
func (d *dice) thrown(count int) api.Hub {
	list := rightPorts()
	h := api.Hub{Count: count}
	for port := 1; port <= count; port++ {
		h.Ports[port] = list[d.below(len(list))]
	}
	return h
}

// with is the hub with another port there.
func with(h api.Hub, at int, p api.Port) api.Hub {
	h.Ports[at] = p
	return h
}

// one is a hub of so many ports of which this one alone isn't zero.
func one(count, at, status, change int) api.Hub {
	return with(api.Hub{Count: count}, at, api.Port{Status: status, Change: change})
}

// ask is the eight bytes of an ask about a port, written out.
func ask(kind, value, index int) string {
	head := map[int]string{api.APortStatus: "\xa3\x00", api.APortOn: "\x23\x03", api.APortOff: "\x23\x01"}[kind]
	length := 0
	if kind == api.APortStatus {
		length = 4
	}
	return head + string([]byte{byte(value), 0, byte(index), 0, byte(length), 0})
}

// What follows, up to the tests, is what the chapter says, word by word.

// spoken is a port, each of its bits by itself.
type spoken struct {
	there, on, reset, power bool
	other, off, ended       bool
}

// bit tells whether a number that is not below 0 has a bit.
func bit(n, b int) bool { return n/b%2 == 1 }

// speak is a port as the chapter speaks of it, and whether its bits may be.
func speak(p api.Port) (spoken, bool) {
	s := spoken{
		there: bit(p.Status, 1), on: bit(p.Status, 2), reset: bit(p.Status, 16), power: bit(p.Status, 256),
		other: bit(p.Change, 1), off: bit(p.Change, 2), ended: bit(p.Change, 16),
	}
	if p.Status < 0 || p.Change < 0 || s.port() != p {
		return s, false
	}
	if s.there && !s.power || (s.on || s.reset) && !s.there || s.on && s.reset {
		return s, false
	}
	return s, true
}

func (s spoken) port() api.Port {
	var p api.Port
	for _, c := range []struct {
		has bool
		to  *int
		bit int
	}{{s.there, &p.Status, 1}, {s.on, &p.Status, 2}, {s.reset, &p.Status, 16}, {s.power, &p.Status, 256}, {s.other, &p.Change, 1}, {s.off, &p.Change, 2}, {s.ended, &p.Change, 16}} {
		if c.has {
			*c.to += c.bit
		}
	}
	return p
}

func checkByWords(h api.Hub) api.Errno {
	if h.Count < 1 || h.Count > 15 {
		return api.ErrArg
	}
	for at, p := range h.Ports {
		if (at == 0 || at > h.Count) && (p.Status != 0 || p.Change != 0) {
			return api.ErrForm
		}
		if _, ok := speak(p); !ok {
			return api.ErrForm
		}
	}
	return api.OK
}

func plugByWords(h api.Hub, port int, there bool) (api.Hub, api.Errno) {
	if code := checkByWords(h); code != api.OK {
		return h, code
	}
	if port < 1 || port > h.Count {
		return h, api.ErrNone
	}
	s, _ := speak(h.Ports[port])
	if !s.power {
		return h, api.ErrStall
	}
	if there && !s.there {
		s.there, s.other = true, true
	} else if !there && s.there {
		s.off = s.off || s.on
		s.there, s.other, s.on, s.reset = false, true, false, false
	}
	return with(h, port, s.port()), api.OK
}

func tickByWords(h api.Hub) (api.Hub, api.Errno) {
	if code := checkByWords(h); code != api.OK {
		return h, code
	}
	for port := 1; port <= h.Count; port++ {
		s, _ := speak(h.Ports[port])
		if s.reset {
			s.on, s.reset, s.ended = true, false, true
		}
		h = with(h, port, s.port())
	}
	return h, api.OK
}

func controlByWords(h api.Hub, text string) (api.Hub, string, api.Errno) {
	if code := checkByWords(h); code != api.OK {
		return h, "", code
	}
	a, code := setup.Read(text)
	if code != api.OK {
		return h, "", api.ErrStall
	}
	if a.Kind != 8 && a.Kind != 9 && a.Kind != 10 {
		return h, "", api.ErrNone
	}
	if a.Index > h.Count {
		return h, "", api.ErrStall
	}
	p := h.Ports[a.Index]
	s, _ := speak(p)
	if a.Kind == 8 {
		return h, string([]byte{byte(p.Status % 256), byte(p.Status / 256), byte(p.Change % 256), byte(p.Change / 256)}), api.OK
	}
	ok := false
	if a.Kind == 9 {
		ok = s.onByWords(a.Value)
	} else {
		ok = s.offByWords(a.Value)
	}
	if !ok {
		return h, "", api.ErrStall
	}
	return with(h, a.Index, s.port()), "", api.OK
}

func (s *spoken) onByWords(value int) bool {
	if value == 8 {
		s.power = true
		return true
	}
	if value == 4 && s.there {
		s.reset, s.on = true, false
		return true
	}
	return false
}

func (s *spoken) offByWords(value int) bool {
	switch value {
	case 1:
		s.on = false
	case 8:
		s.there, s.on, s.reset, s.power = false, false, false, false
	case 16:
		s.other = false
	case 17:
		s.off = false
	case 20:
		s.ended = false
	default:
		return false
	}
	return true
}

func changesByWords(h api.Hub) (string, api.Errno) {
	if code := checkByWords(h); code != api.OK {
		return "", code
	}
	var text []byte
	for k := 0; k <= h.Count; k++ {
		if k%8 == 0 {
			text = append(text, 0)
		}
		if k > 0 && h.Ports[k].Change != 0 {
			text[len(text)-1] += []byte{1, 2, 4, 8, 16, 32, 64, 128}[k%8]
		}
	}
	return string(text), api.OK
}

// What follows holds a call against those words.

// afterPlug is the hub behind Plug; of a right one it holds that it is right still.
func afterPlug(t *testing.T, h api.Hub, port int, there bool) api.Hub {
	t.Helper()
	want, wantCode := plugByWords(h, port, there)
	got, code := Plug(h, port, there)
	if got != want || code != wantCode {
		t.Fatalf("Plug(%v, %d, %v): %v %d, not %v %d", h, port, there, got, code, want, wantCode)
	}
	staysRight(t, h, got)
	return got
}

func afterTick(t *testing.T, h api.Hub) api.Hub {
	t.Helper()
	want, wantCode := tickByWords(h)
	got, code := Tick(h)
	if got != want || code != wantCode {
		t.Fatalf("Tick(%v): %v %d, not %v %d", h, got, code, want, wantCode)
	}
	staysRight(t, h, got)
	return got
}

func afterControl(t *testing.T, h api.Hub, text string) api.Hub {
	t.Helper()
	want, wantText, wantCode := controlByWords(h, text)
	got, gotText, code := Control(h, text)
	if got != want || gotText != wantText || code != wantCode {
		t.Fatalf("Control(%v, %x): %v %x %d, not %v %x %d", h, text, got, gotText, code, want, wantText, wantCode)
	}
	staysRight(t, h, got)
	return got
}

func told(t *testing.T, h api.Hub) {
	t.Helper()
	want, wantCode := changesByWords(h)
	if got, code := Changes(h); got != want || code != wantCode {
		t.Fatalf("Changes(%v): %x %d, not %x %d", h, got, code, want, wantCode)
	}
}

func staysRight(t *testing.T, before, behind api.Hub) {
	t.Helper()
	if checkByWords(before) == api.OK && Check(behind) != api.OK {
		t.Fatalf("%v was right, %v is not", before, behind)
	}
}

// checked holds that Check says this of a hub, and that all others say it as well, ahead of all else, if it is an error.
func checked(t *testing.T, h api.Hub, want api.Errno) {
	t.Helper()
	if code := Check(h); code != want {
		t.Fatalf("Check(%v): %d, not %d", h, code, want)
	}
	if words := checkByWords(h); words != want {
		t.Fatalf("the words say %d of %v, not %d", words, h, want)
	}
	if want == api.OK {
		return
	}
	for _, port := range []int{-1, 0, 1, 2, 15, 16, h.Count, math.MaxInt} {
		for _, there := range []bool{false, true} {
			if got, code := Plug(h, port, there); got != h || code != want {
				t.Fatalf("Plug(%v, %d, %v): %v %d, not %d", h, port, there, got, code, want)
			}
		}
	}
	if got, code := Tick(h); got != h || code != want {
		t.Fatalf("Tick(%v): %v %d, not %d", h, got, code, want)
	}
	for _, text := range []string{"", "port", "\x80\x00\x00\x00\x00\x00\x02\x00", ask(8, 0, 1), ask(9, 8, 1), ask(9, 4, 1), ask(10, 8, 1), ask(10, 16, 15), ask(9, 9, 2)} {
		if got, s, code := Control(h, text); got != h || s != "" || code != want {
			t.Fatalf("Control(%v, %x): %v %x %d, not %d", h, text, got, s, code, want)
		}
	}
	if s, code := Changes(h); s != "" || code != want {
		t.Fatalf("Changes(%v): %x %d, not %d", h, s, code, want)
	}
}

// P18.1

func TestCheckExamples(t *testing.T) {
	checked(t, api.Hub{}, api.ErrArg)
	checked(t, api.Hub{Count: 1}, api.OK)
	checked(t, api.Hub{Count: 15}, api.OK)
	checked(t, api.Hub{Count: 16}, api.ErrArg)
	checked(t, one(4, 4, 259, 19), api.OK)
	checked(t, one(4, 4, 3, 0), api.ErrForm)
	checked(t, one(4, 4, 275, 0), api.ErrForm)
	checked(t, one(4, 4, 256, 4), api.ErrForm)
	checked(t, one(4, 5, 256, 0), api.ErrForm)
	checked(t, one(4, 0, 256, 0), api.ErrForm)
}

// That there can't be so many ports is told ahead of what these are.
func TestCheckCount(t *testing.T) {
	counts := append([]int(nil), far...)
	for count := -40; count <= 300; count++ {
		counts = append(counts, count)
	}
	for _, count := range counts {
		want := api.ErrArg
		if 1 <= count && count <= 15 {
			want = api.OK
		}
		checked(t, api.Hub{Count: count}, want)
		if want != api.OK {
			for at := range 16 {
				checked(t, one(count, at, 256, 1), want)
				checked(t, one(count, at, -1, 4), want)
			}
		}
	}
}

// numbers are those around all bits of a port, and each of its right ones with one bit more.
func numbers(rights ...int) []int {
	list := append([]int(nil), far...)
	for n := -600; n <= 1200; n++ {
		list = append(list, n)
	}
	for _, right := range rights {
		for shift := 9; shift < 64; shift++ {
			list = append(list, right|1<<shift)
		}
	}
	return list
}

func TestCheckStatus(t *testing.T) {
	for _, status := range numbers(0, 256, 257, 259, 273) {
		want := api.ErrForm
		switch status {
		case 0, 256, 257, 259, 273:
			want = api.OK
		}
		checked(t, one(1, 1, status, 0), want)
		checked(t, one(15, 15, status, 19), want)
		checked(t, one(9, 4, status, 1), want)
	}
}

func TestCheckChange(t *testing.T) {
	for _, change := range numbers(0, 1, 2, 3, 16, 17, 18, 19) {
		want := api.ErrForm
		switch change {
		case 0, 1, 2, 3, 16, 17, 18, 19:
			want = api.OK
		}
		checked(t, one(1, 1, 0, change), want)
		checked(t, one(15, 15, 259, change), want)
		checked(t, one(9, 4, 256, change), want)
	}
}

// A port's slip is told at whatever port, beside whatever others.
func TestCheckEachPort(t *testing.T) {
	var d dice
	for count := 1; count <= 15; count++ {
		for at := range 16 {
			h := d.thrown(count)
			checked(t, h, api.OK)
			for _, p := range rightPorts() {
				want := api.OK
				if (at == 0 || at > count) && p != (api.Port{}) {
					want = api.ErrForm
				}
				checked(t, with(h, at, p), want)
			}
			for _, n := range append([]int{1, 2, 3, 16, 17, 18, 258, 272, 274, 275}, far...) {
				checked(t, with(h, at, api.Port{Status: n}), api.ErrForm)
			}
			for _, n := range append([]int{4, 8, 20, 256}, far...) {
				checked(t, with(h, at, api.Port{Status: 256, Change: n}), api.ErrForm)
				checked(t, with(h, at, api.Port{Change: n}), api.ErrForm)
			}
		}
	}
}

// P18.2

func TestPlugExamples(t *testing.T) {
	for _, c := range []struct {
		before api.Port
		there  bool
		behind api.Port
		code   api.Errno
	}{
		{api.Port{}, true, api.Port{}, api.ErrStall},
		{api.Port{}, false, api.Port{}, api.ErrStall},
		{api.Port{Change: 19}, true, api.Port{Change: 19}, api.ErrStall},
		{api.Port{Status: 256}, true, api.Port{Status: 257, Change: 1}, api.OK},
		{api.Port{Status: 256, Change: 18}, true, api.Port{Status: 257, Change: 19}, api.OK},
		{api.Port{Status: 256}, false, api.Port{Status: 256}, api.OK},
		{api.Port{Status: 257}, true, api.Port{Status: 257}, api.OK},
		{api.Port{Status: 259}, true, api.Port{Status: 259}, api.OK},
		{api.Port{Status: 273, Change: 2}, true, api.Port{Status: 273, Change: 2}, api.OK},
		{api.Port{Status: 257}, false, api.Port{Status: 256, Change: 1}, api.OK},
		{api.Port{Status: 259}, false, api.Port{Status: 256, Change: 3}, api.OK},
		{api.Port{Status: 259, Change: 16}, false, api.Port{Status: 256, Change: 19}, api.OK},
		{api.Port{Status: 273}, false, api.Port{Status: 256, Change: 1}, api.OK},
	} {
		h := one(3, 2, c.before.Status, c.before.Change)
		want := with(h, 2, c.behind)
		if got, code := Plug(h, 2, c.there); got != want || code != c.code {
			t.Errorf("%v: %v %d", c, got, code)
		}
	}
}

// Of all hubs that have one port of each sort: nothing but that port is another.
func TestPlugEachPort(t *testing.T) {
	var d dice
	for count := 1; count <= 15; count++ {
		for port := 1; port <= count; port++ {
			for _, p := range rightPorts() {
				for _, there := range []bool{false, true} {
					afterPlug(t, one(count, port, p.Status, p.Change), port, there)
					h := afterPlug(t, with(d.thrown(count), port, p), port, there)
					if again, code := Plug(h, port, there); again != h || code == api.OK != (p.Status != 0) {
						t.Fatal("plugged twice:", h, again, code)
					}
				}
			}
		}
	}
}

// A port that isn't there is told as that, whatever the numbers of others.
func TestPlugNone(t *testing.T) {
	var d dice
	for count := 1; count <= 15; count++ {
		h := d.thrown(count)
		ports := append([]int{0}, far...)
		for port := count + 1; port <= 300; port++ {
			ports = append(ports, port)
		}
		for _, port := range ports {
			for _, there := range []bool{false, true} {
				if got, code := Plug(h, port, there); got != h || code != api.ErrNone {
					t.Fatal(h, port, got, code)
				}
			}
		}
	}
}

// P18.3

func TestTickExamples(t *testing.T) {
	for _, c := range []struct{ before, behind api.Port }{
		{api.Port{}, api.Port{}},
		{api.Port{Change: 3}, api.Port{Change: 3}},
		{api.Port{Status: 256}, api.Port{Status: 256}},
		{api.Port{Status: 257, Change: 1}, api.Port{Status: 257, Change: 1}},
		{api.Port{Status: 259}, api.Port{Status: 259}},
		{api.Port{Status: 273}, api.Port{Status: 259, Change: 16}},
		{api.Port{Status: 273, Change: 3}, api.Port{Status: 259, Change: 19}},
		{api.Port{Status: 273, Change: 16}, api.Port{Status: 259, Change: 16}},
	} {
		h := one(5, 5, c.before.Status, c.before.Change)
		want := with(h, 5, c.behind)
		if got, code := Tick(h); got != want || code != api.OK {
			t.Errorf("%v: %v %d", c, got, code)
		}
	}
}

// Each port ticks, the first and the last among them, and no other one hangs on it.
func TestTickEachPort(t *testing.T) {
	var d dice
	for count := 1; count <= 15; count++ {
		all := api.Hub{Count: count}
		for port := 1; port <= count; port++ {
			all.Ports[port].Status = 273
			for _, p := range rightPorts() {
				afterTick(t, one(count, port, p.Status, p.Change))
				h := afterTick(t, with(d.thrown(count), port, p))
				if again, code := Tick(h); again != h || code != api.OK {
					t.Fatal("ticked twice:", h, again, code)
				}
			}
		}
		all = afterTick(t, all)
		for port := 1; port <= count; port++ {
			if all.Ports[port] != (api.Port{Status: 259, Change: 16}) {
				t.Fatal(all)
			}
		}
	}
}

// P18.4

func TestControlExamples(t *testing.T) {
	for _, c := range []struct {
		before      api.Port
		kind, value int
		behind      api.Port
		text        string
		code        api.Errno
	}{
		{api.Port{}, api.APortStatus, 0, api.Port{}, "\x00\x00\x00\x00", api.OK},
		{api.Port{Status: 259, Change: 17}, api.APortStatus, 0, api.Port{Status: 259, Change: 17}, "\x03\x01\x11\x00", api.OK},
		{api.Port{Status: 273, Change: 2}, api.APortStatus, 0, api.Port{Status: 273, Change: 2}, "\x11\x01\x02\x00", api.OK},
		{api.Port{}, api.APortOn, 8, api.Port{Status: 256}, "", api.OK},
		{api.Port{Change: 19}, api.APortOn, 8, api.Port{Status: 256, Change: 19}, "", api.OK},
		{api.Port{Status: 259, Change: 1}, api.APortOn, 8, api.Port{Status: 259, Change: 1}, "", api.OK},
		{api.Port{}, api.APortOn, 4, api.Port{}, "", api.ErrStall},
		{api.Port{Status: 256, Change: 1}, api.APortOn, 4, api.Port{Status: 256, Change: 1}, "", api.ErrStall},
		{api.Port{Status: 257, Change: 1}, api.APortOn, 4, api.Port{Status: 273, Change: 1}, "", api.OK},
		{api.Port{Status: 259}, api.APortOn, 4, api.Port{Status: 273}, "", api.OK},
		{api.Port{Status: 273}, api.APortOn, 4, api.Port{Status: 273}, "", api.OK},
		{api.Port{Status: 257}, api.APortOn, 1, api.Port{Status: 257}, "", api.ErrStall},
		{api.Port{Status: 257}, api.APortOn, 16, api.Port{Status: 257}, "", api.ErrStall},
		{api.Port{Status: 259, Change: 16}, api.APortOff, 1, api.Port{Status: 257, Change: 16}, "", api.OK},
		{api.Port{Status: 273}, api.APortOff, 1, api.Port{Status: 273}, "", api.OK},
		{api.Port{}, api.APortOff, 1, api.Port{}, "", api.OK},
		{api.Port{Status: 259, Change: 16}, api.APortOff, 8, api.Port{Change: 16}, "", api.OK},
		{api.Port{Status: 273}, api.APortOff, 8, api.Port{}, "", api.OK},
		{api.Port{Status: 256, Change: 19}, api.APortOff, 16, api.Port{Status: 256, Change: 18}, "", api.OK},
		{api.Port{Status: 256, Change: 19}, api.APortOff, 17, api.Port{Status: 256, Change: 17}, "", api.OK},
		{api.Port{Status: 256, Change: 19}, api.APortOff, 20, api.Port{Status: 256, Change: 3}, "", api.OK},
		{api.Port{Change: 2}, api.APortOff, 16, api.Port{Change: 2}, "", api.OK},
		{api.Port{Status: 273}, api.APortOff, 4, api.Port{Status: 273}, "", api.ErrStall},
		{api.Port{Status: 259, Change: 19}, api.APortOff, 18, api.Port{Status: 259, Change: 19}, "", api.ErrStall},
		{api.Port{Status: 259, Change: 19}, api.APortOff, 0, api.Port{Status: 259, Change: 19}, "", api.ErrStall},
	} {
		h := one(8, 7, c.before.Status, c.before.Change)
		want := with(h, 7, c.behind)
		if got, text, code := Control(h, ask(c.kind, c.value, 7)); got != want || text != c.text || code != c.code {
			t.Errorf("%v: %v %x %d", c, got, text, code)
		}
	}
}

// All asks about all ports, of whatever sort the port is.
func TestControlEachAsk(t *testing.T) {
	var d dice
	for count := 1; count <= 15; count++ {
		for index := 1; index <= 15; index++ {
			for _, p := range rightPorts() {
				h := d.thrown(count)
				if index <= count {
					h = with(h, index, p)
				}
				afterControl(t, h, ask(api.APortStatus, 0, index))
				for value := range 32 {
					afterControl(t, h, ask(api.APortOn, value, index))
					afterControl(t, h, ask(api.APortOff, value, index))
				}
			}
		}
	}
}

// Which values are called at all, of a port with something there.
func TestControlValues(t *testing.T) {
	h := one(2, 2, 259, 19)
	for value := range 32 {
		_, _, code := Control(h, ask(api.APortOn, value, 2))
		if (code == api.OK) != slices.Contains([]int{4, 8}, value) || code != api.OK && code != api.ErrStall {
			t.Error("on:", value, code)
		}
		_, _, code = Control(h, ask(api.APortOff, value, 2))
		if (code == api.OK) != slices.Contains([]int{1, 8, 16, 17, 20}, value) || code != api.OK && code != api.ErrStall {
			t.Error("off:", value, code)
		}
	}
}

// Ports above Count are refused, even where the ask itself is one that is never done.
func TestControlPortAbove(t *testing.T) {
	var d dice
	for count := 1; count <= 15; count++ {
		h := d.thrown(count)
		for index := count + 1; index <= 15; index++ {
			for _, text := range []string{ask(api.APortStatus, 0, index), ask(api.APortOn, 8, index), ask(api.APortOn, 4, index), ask(api.APortOff, 8, index), ask(api.APortOff, 16, index), ask(api.APortOff, 30, index)} {
				if got, s, code := Control(h, text); got != h || s != "" || code != api.ErrStall {
					t.Fatal(h, text, got, s, code)
				}
			}
		}
	}
}

// What isn't asked of a hub's ports is for others to answer.
func TestControlOthers(t *testing.T) {
	var d dice
	for _, a := range []api.Ask{
		{Kind: api.AStatus, Length: 2},
		{Kind: api.AHaltOff, Index: 1},
		{Kind: api.AHaltOn, Index: 143},
		{Kind: api.AAddress, Value: 8},
		{Kind: api.ADescribe, Value: 256, Length: 18},
		{Kind: api.ADescribe, Value: 8, Index: 1, Length: 4},
		{Kind: api.ADescribe, Value: 65535, Index: 65535, Length: 65535},
		{Kind: api.AConfigure, Value: 1},
		{Kind: api.AConfigured, Length: 1},
		{Kind: api.ABulkReset, Index: 1},
		{Kind: api.ABulkReset, Index: 16},
		{Kind: api.AMaxUnit, Index: 200, Length: 1},
		{Kind: api.AIdle, Value: 8, Index: 1},
		{Kind: api.ALights, Value: 512, Index: 15, Length: 1},
	} {
		text, code := setup.Write(a)
		if code != api.OK {
			t.Fatal(a, code)
		}
		for count := 1; count <= 15; count++ {
			h := d.thrown(count)
			if got, s, code := Control(h, text); got != h || s != "" || code != api.ErrNone {
				t.Fatal(a, h, got, s, code)
			}
		}
	}
}

// What is no ask, or has another size, is refused.
func TestControlNoAsk(t *testing.T) {
	h := one(15, 1, 259, 19)
	list := []string{
		"", "\x23", strings.Repeat("\x00", 8), strings.Repeat("\xff", 8), strings.Repeat("\x23", 1<<20),
		"\xa3\x00\x01\x00\x01\x00\x04\x00", // a value
		"\xa3\x00\x00\x00\x01\x00\x03\x00", // another length
		"\xa3\x00\x00\x00\x00\x00\x04\x00", // port 0
		"\xa3\x00\x00\x00\x10\x00\x04\x00", // port 16
		"\xa3\x00\x00\x00\x01\x01\x04\x00", // port 257
		"\x23\x03\x08\x00\x00\x00\x00\x00", // port 0
		"\x23\x03\x08\x00\x10\x00\x00\x00", // port 16
		"\x23\x03\x08\x01\x01\x00\x00\x00", // value 264
		"\x23\x03\x20\x00\x01\x00\x00\x00", // value 32
		"\x23\x01\x08\x00\x01\x00\x01\x00", // a length
		"\x23\x00\x08\x00\x01\x00\x00\x00", // no kind
		"\x03\x23\x08\x00\x01\x00\x00\x00", // the wrong way round
	}
	for _, text := range []string{ask(api.APortStatus, 0, 1), ask(api.APortOn, 8, 1), ask(api.APortOff, 8, 1)} {
		for size := range 8 {
			list = append(list, text[:size])
		}
		list = append(list, text+"\x00", text+text, "\x00"+text)
	}
	for _, text := range list {
		if got, s, code := Control(h, text); got != h || s != "" || code != api.ErrStall {
			t.Errorf("%x: %v %x %d", text, got, s, code)
		}
	}
}

// Each byte of an ask is looked at.
func TestControlEachByte(t *testing.T) {
	var d dice
	for _, text := range []string{ask(api.APortStatus, 0, 3), ask(api.APortOn, 8, 1), ask(api.APortOn, 4, 15), ask(api.APortOff, 1, 7), ask(api.APortOff, 20, 8)} {
		for at := range text {
			for b := range 256 {
				afterControl(t, d.thrown(1+d.below(15)), text[:at]+string([]byte{byte(b)})+text[at+1:])
			}
		}
	}
	for head := range 1 << 16 {
		text := string([]byte{byte(head), byte(head >> 8)})
		afterControl(t, d.thrown(15), text+"\x00\x00\x01\x00\x04\x00")
		afterControl(t, d.thrown(15), text+"\x08\x00\x01\x00\x00\x00")
	}
	for range 20000 {
		afterControl(t, d.thrown(15), d.text(d.below(11)))
	}
}

// P18.5

func TestChangesExamples(t *testing.T) {
	for _, c := range []struct {
		h    api.Hub
		want string
	}{
		{api.Hub{Count: 1}, "\x00"},
		{api.Hub{Count: 7}, "\x00"},
		{api.Hub{Count: 8}, "\x00\x00"},
		{api.Hub{Count: 15}, "\x00\x00"},
		{one(1, 1, 0, 1), "\x02"},
		{one(7, 7, 256, 2), "\x80"},
		{one(8, 8, 256, 16), "\x00\x01"},
		{one(8, 7, 256, 19), "\x80\x00"},
		{one(15, 15, 259, 3), "\x00\x80"},
		{one(15, 9, 273, 0), "\x00\x00"},
		{with(with(one(12, 1, 257, 1), 12, api.Port{Change: 16}), 3, api.Port{Status: 256, Change: 2}), "\x0a\x10"},
	} {
		if got, code := Changes(c.h); got != c.want || code != api.OK {
			t.Errorf("%v: %x %d, not %x", c.h, got, code, c.want)
		}
	}
}

// All sets of ports that have a change; which change, and which status, is not told.
func TestChangesEachSet(t *testing.T) {
	var d dice
	changes := []int{1, 2, 3, 16, 17, 18, 19}
	for count := 1; count <= 15; count++ {
		for set := 0; set < 2<<count; set += 2 {
			h := d.thrown(count)
			for port := 1; port <= count; port++ {
				h.Ports[port].Change = set >> port & 1 * changes[d.below(len(changes))]
			}
			told(t, h)
			got, _ := Changes(h)
			want := string([]byte{byte(set), byte(set >> 8)})[:(count+8)/8]
			if got != want {
				t.Fatalf("%v: %x, not %x", h, got, want)
			}
		}
	}
}

// What holds of all of it.

// A device comes, is met, goes by itself, and comes again; another port is left alone.
func TestLife(t *testing.T) {
	h := api.Hub{Count: 4}
	steps := []struct {
		do      func(api.Hub) api.Hub
		port    api.Port
		changes string
	}{
		{func(h api.Hub) api.Hub { return afterControl(t, h, ask(api.APortOn, 8, 3)) }, api.Port{Status: 256}, "\x00"},
		{func(h api.Hub) api.Hub { return afterPlug(t, h, 3, true) }, api.Port{Status: 257, Change: 1}, "\x08"},
		{func(h api.Hub) api.Hub { return afterControl(t, h, ask(api.APortOff, 16, 3)) }, api.Port{Status: 257}, "\x00"},
		{func(h api.Hub) api.Hub { return afterControl(t, h, ask(api.APortOn, 4, 3)) }, api.Port{Status: 273}, "\x00"},
		{func(h api.Hub) api.Hub { return afterTick(t, h) }, api.Port{Status: 259, Change: 16}, "\x08"},
		{func(h api.Hub) api.Hub { return afterControl(t, h, ask(api.APortOff, 20, 3)) }, api.Port{Status: 259}, "\x00"},
		{func(h api.Hub) api.Hub { return afterTick(t, h) }, api.Port{Status: 259}, "\x00"},
		{func(h api.Hub) api.Hub { return afterPlug(t, h, 3, false) }, api.Port{Status: 256, Change: 3}, "\x08"},
		{func(h api.Hub) api.Hub { return afterPlug(t, h, 3, true) }, api.Port{Status: 257, Change: 3}, "\x08"},
		{func(h api.Hub) api.Hub { return afterControl(t, h, ask(api.APortOff, 17, 3)) }, api.Port{Status: 257, Change: 1}, "\x08"},
		{func(h api.Hub) api.Hub { return afterControl(t, h, ask(api.APortOn, 4, 3)) }, api.Port{Status: 273, Change: 1}, "\x08"},
		{func(h api.Hub) api.Hub { return afterPlug(t, h, 3, false) }, api.Port{Status: 256, Change: 1}, "\x08"},
		{func(h api.Hub) api.Hub { return afterTick(t, h) }, api.Port{Status: 256, Change: 1}, "\x08"},
		{func(h api.Hub) api.Hub { return afterControl(t, h, ask(api.APortOff, 8, 3)) }, api.Port{Change: 1}, "\x08"},
		{func(h api.Hub) api.Hub { return afterPlug(t, h, 3, true) }, api.Port{Change: 1}, "\x08"},
		{func(h api.Hub) api.Hub { return afterControl(t, h, ask(api.APortOff, 16, 3)) }, api.Port{}, "\x00"},
	}
	for i, step := range steps {
		h = step.do(h)
		if want := one(4, 3, step.port.Status, step.port.Change); h != want {
			t.Fatal(i, h, want)
		}
		if s, code := Changes(h); s != step.changes || code != api.OK {
			t.Fatalf("%d: %x %d", i, s, code)
		}
	}
}

// Long rows of thrown calls: whatever is done, the hub stays one that may be.
func TestThrownRows(t *testing.T) {
	var d dice
	values := []int{1, 4, 8, 16, 17, 20}
	for count := 1; count <= 15; count++ {
		h := api.Hub{Count: count}
		seen := map[api.Port]int{}
		for range 6000 {
			port := d.below(count+2) + d.below(2)*d.below(2)
			switch d.below(8) {
			case 0, 1, 2:
				h = afterPlug(t, h, port, d.below(2) == 0)
			case 3:
				h = afterTick(t, h)
			case 4, 5:
				h = afterControl(t, h, ask(api.APortOn, values[d.below(3)], port))
			case 6:
				h = afterControl(t, h, ask(api.APortOff, values[d.below(6)], port))
			case 7:
				h = afterControl(t, h, ask(api.APortStatus, 0, port))
			}
			told(t, h)
			for _, p := range h.Ports[1 : count+1] {
				seen[p]++
			}
		}
		if len(seen) < 30 {
			t.Error("few sorts of ports were seen:", count, len(seen))
		}
	}
}

// Hubs with one slip, and hubs of any numbers: all calls say what the words say.
func TestThrownSlips(t *testing.T) {
	var d dice
	wild := append([]int{0, 1, 2, 3, 4, 16, 17, 18, 19, 256, 257, 258, 259, 272, 273, 275}, far...)
	for range 20000 {
		h := d.thrown(1 + d.below(15))
		switch at := d.below(16); d.below(4) {
		case 0:
			h.Ports[at].Status = wild[d.below(len(wild))]
		case 1:
			h.Ports[at].Change = wild[d.below(len(wild))]
		case 2:
			h.Count += d.below(5) - 2
		case 3:
			h.Count = wild[d.below(len(wild))]
		}
		if d.below(4) == 0 {
			h.Ports[d.below(16)].Status ^= 1 << d.below(64)
		}
		checked(t, h, checkByWords(h))
		afterPlug(t, h, d.below(17), d.below(2) == 0)
		afterTick(t, h)
		afterControl(t, h, ask(8+d.below(3), d.below(32), d.below(17)))
		told(t, h)
	}
}

// Nothing is kept: what was answered is answered again, whatever was asked between.
func TestSameAnswerAgain(t *testing.T) {
	var d dice
	for range 2000 {
		h := d.thrown(1 + d.below(15))
		text := ask(8+d.below(3), d.below(32), 1+d.below(15))
		first, firstText, firstCode := Control(h, text)
		for range 3 {
			other := d.thrown(1 + d.below(15))
			Plug(other, 1, true)
			Tick(other)
			Control(other, ask(api.APortOff, 8, 1))
			Changes(other)
		}
		if again, s, code := Control(h, text); again != first || s != firstText || code != firstCode {
			t.Fatal(h, text, again, s, code)
		}
	}
}
