package gadget

import (
	"math"
	"reflect"
	"slices"
	"strings"
	"testing"

	"plugtree/api"
	"plugtree/desc"
	"plugtree/setup"
)

// far are numbers that are out of all bounds, many of them such that their lower bits are not.
var far = []int{-1, -2, -127, -128, -256, 1 << 32, 1<<32 + 1, 1<<32 + 2, 1<<33 + 1, 1<<40 + 2, 1<<62 + 1, math.MinInt, math.MinInt + 1, math.MinInt + 2, math.MinInt32, math.MaxInt}

// dice are numbers that are the same in each run.
type dice struct{ n uint64 }

func (d *dice) below(most int) int {
	d.n = d.n*6364136223846793005 + 1442695040888963407
	return int(d.n>>33) % most
}

func (d *dice) text(size int) string {
	text := make([]byte, size)
	for i := range text {
		text[i] = byte(d.below(256))
	}
	return string(text)
}

func plain() api.Sheet {
	return api.Sheet{Device: api.Device{Max0: 8, Configs: 1}, Config: api.Config{Value: 1}}
}

// rich has three texts, all of them spoken of, and endpoints 1 outward, 2 both ways, 3 and 15 inward, 14 outward.
func rich() api.Sheet {
	return api.Sheet{
		Device: api.Device{Usb: 0x200, Class: 9, Sub: 1, Proto: 2, Max0: 64, Vendor: 0x1234, Product: 0x5678, Release: 0x9abc, Maker: 1, Name: 2, Serial: 3, Configs: 1},
		Config: api.Config{Value: 200, Name: 3, Attr: 0xe0, Power: 50, Faces: []api.Face{
			{Class: 3, Sub: 1, Proto: 1, Name: 2, Extra: []string{"\x03\x21a"}, Ends: []api.End{
				{Addr: 1, Kind: 2, Max: 64},
				{Addr: 2, In: true, Kind: 3, Max: 8, Interval: 10},
			}},
			{Class: 8, Name: 1, Ends: []api.End{
				{Addr: 2, Kind: 2, Max: 64},
				{Addr: 3, In: true, Kind: 1, Max: 16},
				{Addr: 15, In: true, Kind: 1, Max: 16},
				{Addr: 14, Kind: 1, Max: 16},
			}},
			{Name: 0},
		}},
		Texts: []string{"us", "", "A1\u20ac"},
	}
}

const (
	richDevice = "\x12\x01\x00\x02\x09\x01\x02\x40\x34\x12\x78\x56\xbc\x9a\x01\x02\x03\x01"
	richConfig = "\x09\x02\x51\x00\x03\xc8\x03\xe0\x32" +
		"\x09\x04\x00\x00\x02\x03\x01\x01\x02" + "\x03\x21a" + "\x07\x05\x01\x02\x40\x00\x00" + "\x07\x05\x82\x03\x08\x00\x0a" +
		"\x09\x04\x01\x00\x04\x08\x00\x00\x01" + "\x07\x05\x02\x02\x40\x00\x00" + "\x07\x05\x83\x01\x10\x00\x00" + "\x07\x05\x8f\x01\x10\x00\x00" + "\x07\x05\x0e\x01\x10\x00\x00" +
		"\x09\x04\x02\x00\x00\x00\x00\x00\x00"
)

func richEnds() []int { return []int{0, 128, 1, 130, 2, 131, 143, 14} }

func check(t *testing.T, s api.Sheet, want api.Errno) {
	t.Helper()
	if got := Check(s); got != want {
		t.Errorf("Check(%+v): %d, not %d", s, got, want)
	}
}

// P8.1

func TestCheckGood(t *testing.T) {
	check(t, plain(), api.OK)
	check(t, rich(), api.OK)
	check(t, api.Sheet{Device: plain().Device, Config: plain().Config, Texts: []string{}}, api.OK)
}

func TestCheckDevice(t *testing.T) {
	check(t, api.Sheet{}, api.ErrArg)
	for _, spoil := range []func(d *api.Device, n int){
		func(d *api.Device, n int) { d.Usb = n },
		func(d *api.Device, n int) { d.Class = n },
		func(d *api.Device, n int) { d.Sub = n },
		func(d *api.Device, n int) { d.Proto = n },
		func(d *api.Device, n int) { d.Max0 = n },
		func(d *api.Device, n int) { d.Vendor = n },
		func(d *api.Device, n int) { d.Product = n },
		func(d *api.Device, n int) { d.Release = n },
		func(d *api.Device, n int) { d.Maker = n },
		func(d *api.Device, n int) { d.Name = n },
		func(d *api.Device, n int) { d.Serial = n },
		func(d *api.Device, n int) { d.Configs = n },
	} {
		for _, n := range append([]int{65536, 65537}, far...) {
			s := rich()
			spoil(&s.Device, n)
			check(t, s, api.ErrArg)
		}
	}
}

func TestCheckConfigs(t *testing.T) {
	for n := -300; n < 600; n++ {
		s := rich()
		s.Device.Configs = n
		switch {
		case n == 1:
			check(t, s, api.OK)
		case 2 <= n && n <= 255:
			check(t, s, api.ErrForm)
		default:
			check(t, s, api.ErrArg)
		}
	}
}

func TestCheckConfig(t *testing.T) {
	for _, c := range []struct {
		want  api.Errno
		spoil func(c *api.Config)
	}{
		{api.ErrArg, func(c *api.Config) { c.Value = 0 }},
		{api.ErrArg, func(c *api.Config) { c.Value = 256 }},
		{api.ErrArg, func(c *api.Config) { c.Name = 256 }},
		{api.ErrArg, func(c *api.Config) { c.Name = -1 }},
		{api.ErrArg, func(c *api.Config) { c.Faces[2].Name = 256 }},
		{api.ErrArg, func(c *api.Config) { c.Faces[1].Ends[3].Addr = 16 }},
		{api.ErrLarge, func(c *api.Config) { c.Faces = make([]api.Face, 5) }},
		{api.ErrLarge, func(c *api.Config) { c.Faces[0].Extra = make([]string, 3) }},
		{api.ErrLarge, func(c *api.Config) { c.Faces[2].Ends = make([]api.End, 5) }},
		{api.ErrTwice, func(c *api.Config) { c.Faces[1].Ends[0].In = true }},
	} {
		s := rich()
		c.spoil(&s.Config)
		check(t, s, c.want)
	}
	s := rich()
	s.Config.Faces = append(s.Config.Faces, api.Face{Name: 3})
	check(t, s, api.OK)
}

func TestCheckTexts(t *testing.T) {
	for count := range 300 {
		s := plain()
		s.Texts = make([]string, count)
		want := api.OK
		if count > 8 {
			want = api.ErrLarge
		}
		check(t, s, want)
	}
	for count := 1; count <= 8; count++ {
		for at := range count {
			for size, want := range map[int]api.Errno{126: api.OK, 127: api.ErrLarge, 1 << 16: api.ErrLarge} {
				s := plain()
				s.Texts = make([]string, count)
				s.Texts[at] = strings.Repeat("a", size)
				check(t, s, want)
			}
		}
	}
	s := plain()
	s.Texts = []string{"\xff\x00\xed\xa0\x80", strings.Repeat("\U0001d11e", 63)}
	check(t, s, api.OK)
	s.Texts[1] += "a"
	check(t, s, api.ErrLarge)
}

// names are all the places of a number of a text, of a sheet that has four Faces.
func names() []func(s *api.Sheet) *int {
	list := []func(s *api.Sheet) *int{
		func(s *api.Sheet) *int { return &s.Device.Maker },
		func(s *api.Sheet) *int { return &s.Device.Name },
		func(s *api.Sheet) *int { return &s.Device.Serial },
		func(s *api.Sheet) *int { return &s.Config.Name },
	}
	for i := range 4 {
		list = append(list, func(s *api.Sheet) *int { return &s.Config.Faces[i].Name })
	}
	return list
}

func TestCheckNumbersOfTexts(t *testing.T) {
	for _, name := range names() {
		for count := range 9 {
			for n := range 256 {
				s := plain()
				s.Config.Faces = make([]api.Face, 4)
				s.Texts = make([]string, count)
				*name(&s) = n
				want := api.OK
				if n > count {
					want = api.ErrNone
				}
				check(t, s, want)
			}
		}
	}
	// Numbers that aren't those of texts may be above.
	s := plain()
	s.Device.Class, s.Device.Sub, s.Device.Proto, s.Device.Vendor = 255, 255, 255, 65535
	s.Config = api.Config{Value: 255, Attr: 255, Power: 255, Faces: []api.Face{{Class: 255, Sub: 255, Proto: 255}}}
	check(t, s, api.OK)
}

type spoil struct {
	want api.Errno
	do   func(s *api.Sheet)
}

// spoils are in the order in which they are told.
func spoils() []spoil {
	return []spoil{
		{api.ErrArg, func(s *api.Sheet) { s.Device.Max0 = 9 }},
		{api.ErrForm, func(s *api.Sheet) { s.Device.Configs = 2 }},
		{api.ErrTwice, func(s *api.Sheet) { s.Config.Faces[1].Ends[0].In = true }},
		{api.ErrLarge, func(s *api.Sheet) { s.Texts = append(s.Texts, make([]string, 9)...) }},
		{api.ErrLarge, func(s *api.Sheet) { s.Texts[0] = strings.Repeat("a", 127) }},
		{api.ErrNone, func(s *api.Sheet) { s.Device.Maker = 200 }},
	}
}

func TestCheckOrder(t *testing.T) {
	list := spoils()
	for i, one := range list {
		s := rich()
		one.do(&s)
		check(t, s, one.want)
		for _, two := range list[i+1:] {
			s := rich()
			two.do(&s)
			one.do(&s)
			check(t, s, one.want)
		}
	}
}

// P8.2 and P8.3

func written(kind, value, index, length int) string {
	s, code := setup.Write(api.Ask{Kind: kind, Value: value, Index: index, Length: length})
	if code != api.OK {
		panic("no ask")
	}
	return s
}

func control(t *testing.T, s api.Sheet, g api.Gadget, ask string, want api.Gadget, text string) {
	t.Helper()
	if got, said, code := Control(s, g, ask); got != want || said != text || code != api.OK {
		t.Errorf("Control(%+v, %x): %+v %x %d, not %+v %x", g, ask, got, said, code, want, text)
	}
}

// notDone: with an error the Gadget is the one that was handed in.
func notDone(t *testing.T, s api.Sheet, g api.Gadget, ask string, want api.Errno) {
	t.Helper()
	if got, said, code := Control(s, g, ask); got != g || said != "" || code != want {
		t.Errorf("Control(%+v, %x): %+v %x %d, not %d", g, ask, got, said, code, want)
	}
}

var status = written(api.AStatus, 0, 0, 2)

// stands are Gadgets that are right, of each State.
func stands() []api.Gadget {
	return []api.Gadget{
		{},
		{State: 1, Addr: 1}, {State: 1, Addr: 9}, {State: 1, Addr: 127},
		{State: 2, Addr: 1}, {State: 2, Addr: 127}, {State: 2, Addr: 9, Halts: 1 << 18}, {State: 2, Addr: 9, Halts: 1<<32 - 1},
	}
}

func TestRight(t *testing.T) {
	numbers := append([]int{3, 4, 63, 64, 125, 126, 127, 128, 129, 255, 256, 1 << 16, 1<<16 + 1, 1 << 31, 1<<32 - 1, 0, 1, 2}, far...)
	for _, state := range numbers {
		for _, addr := range numbers {
			for _, halts := range numbers {
				g := api.Gadget{State: state, Addr: addr, Halts: halts}
				right := state == 0 && addr == 0 && halts == 0 ||
					state == 1 && addr >= 1 && addr <= 127 && halts == 0 ||
					state == 2 && addr >= 1 && addr <= 127 && halts >= 0 && halts <= 4294967295
				if right {
					control(t, rich(), g, status, g, "\x00\x00")
				} else {
					notDone(t, rich(), g, status, api.ErrArg)
				}
			}
		}
	}
}

func TestRightBits(t *testing.T) {
	for bit := range 63 {
		for state := range 3 {
			g := api.Gadget{State: state, Addr: min(state, 1), Halts: 1 << bit}
			if state == 2 && bit < 32 {
				control(t, plain(), g, status, g, "\x00\x00")
			} else {
				notDone(t, plain(), g, status, api.ErrArg)
			}
		}
	}
}

func TestControlOrder(t *testing.T) {
	wrong := api.Gadget{State: 1, Addr: 200, Halts: 3}
	port := written(api.APortStatus, 0, 1, 4)
	asks := []string{"", "x", status, status + "\x00", port, strings.Repeat("\xff", 8)}
	for _, one := range spoils() {
		s := rich()
		one.do(&s)
		for _, g := range append(stands(), wrong) {
			for _, ask := range asks {
				notDone(t, s, g, ask, one.want)
			}
		}
	}
	for _, ask := range asks {
		notDone(t, rich(), wrong, ask, api.ErrArg)
	}
}

func TestNoAsk(t *testing.T) {
	for _, g := range stands() {
		for size := range 8 {
			notDone(t, rich(), g, status[:size], api.ErrStall)
		}
		notDone(t, rich(), g, status+"\x00", api.ErrStall)
		notDone(t, rich(), g, status+status, api.ErrStall)
		notDone(t, rich(), g, strings.Repeat("\x00", 8), api.ErrStall)
		notDone(t, rich(), g, strings.Repeat("\xff", 1<<16), api.ErrStall)
		notDone(t, rich(), g, "\x80\x00\x00\x00\x00\x00\x03\x00", api.ErrStall)
		notDone(t, rich(), g, "\x00\x05\x80\x00\x00\x00\x00\x00", api.ErrStall)
		notDone(t, rich(), g, "\xa3\x00\x00\x00\x00\x00\x04\x00", api.ErrStall)
	}
}

func TestForOthers(t *testing.T) {
	for _, g := range stands() {
		for _, ask := range []string{
			written(api.APortStatus, 0, 1, 4),
			written(api.APortOn, 8, 1, 0),
			written(api.APortOff, 16, 15, 0),
			written(api.ABulkReset, 0, 0, 0),
			written(api.AMaxUnit, 0, 0, 1),
			written(api.AIdle, 0, 0, 0),
			written(api.ALights, 512, 0, 1),
		} {
			notDone(t, rich(), g, ask, api.ErrNone)
			notDone(t, plain(), g, ask, api.ErrNone)
		}
	}
}

func TestStatus(t *testing.T) {
	for _, g := range stands() {
		control(t, rich(), g, status, g, "\x00\x00")
	}
}

func TestDescribe(t *testing.T) {
	lengths := []int{0, 1, 2, 3, 4, 5, 6, 8, 9, 17, 18, 19, 64, 80, 81, 82, 255, 256, 512, 65535}
	called := map[int]string{
		256: richDevice, 512: richConfig, 768: "\x04\x03\x09\x04",
		769: "\x06\x03u\x00s\x00", 770: "\x02\x03", 771: "\x08\x03A\x001\x00\xac\x20",
	}
	for _, g := range stands() {
		for value, text := range called {
			for _, length := range lengths {
				for _, index := range []int{0, 1, 0x0409, 65535} {
					want := text
					if length < len(text) {
						want = text[:length]
					}
					control(t, rich(), g, written(api.ADescribe, value, index, length), g, want)
				}
			}
		}
	}
	for value := range 65536 {
		if called[value] == "" {
			notDone(t, rich(), stands()[value%8], written(api.ADescribe, value, 0, 255), api.ErrStall)
			notDone(t, rich(), api.Gadget{}, written(api.ADescribe, value, 0, 0), api.ErrStall)
		}
	}
}

func TestDescribeTexts(t *testing.T) {
	for count := range 9 {
		s := plain()
		for i := range count {
			s.Texts = append(s.Texts, strings.Repeat("abcdefgh"[i:i+1], 126-i))
		}
		control(t, s, api.Gadget{}, written(api.ADescribe, 768, 0, 255), api.Gadget{}, "\x04\x03\x09\x04")
		for i := 1; i < 300; i++ {
			ask := written(api.ADescribe, 768+i, 0, 255)
			if i > count {
				notDone(t, s, api.Gadget{}, ask, api.ErrStall)
				continue
			}
			want, _ := desc.WriteText(s.Texts[i-1])
			control(t, s, api.Gadget{}, ask, api.Gadget{}, want)
			control(t, s, api.Gadget{}, written(api.ADescribe, 768+i, 0, 7), api.Gadget{}, want[:7])
		}
	}
}

func TestAddress(t *testing.T) {
	control(t, rich(), api.Gadget{}, written(api.AAddress, 7, 0, 0), api.Gadget{State: 1, Addr: 7}, "")
	for _, g := range stands() {
		for addr := range 128 {
			ask, want := written(api.AAddress, addr, 0, 0), api.Gadget{State: 1, Addr: addr}
			if addr == 0 {
				want = api.Gadget{}
			}
			if g.State == 2 {
				notDone(t, rich(), g, ask, api.ErrStall)
			} else {
				control(t, rich(), g, ask, want, "")
			}
		}
	}
}

func TestConfigure(t *testing.T) {
	for _, value := range []int{1, 2, 127, 128, 200, 255} {
		s := rich()
		s.Config.Value = value
		for _, g := range stands() {
			for n := range 256 {
				ask := written(api.AConfigure, n, 0, 0)
				switch {
				case g.State > 0 && n == 0:
					control(t, s, g, ask, api.Gadget{State: 1, Addr: g.Addr}, "")
				case g.State > 0 && n == value:
					control(t, s, g, ask, api.Gadget{State: 2, Addr: g.Addr}, "")
				default:
					notDone(t, s, g, ask, api.ErrStall)
				}
			}
		}
	}
}

func TestConfigured(t *testing.T) {
	ask := written(api.AConfigured, 0, 0, 1)
	for value := 1; value < 256; value++ {
		s := rich()
		s.Config.Value = value
		for _, g := range stands() {
			switch g.State {
			case 0:
				notDone(t, s, g, ask, api.ErrStall)
			case 1:
				control(t, s, g, ask, g, "\x00")
			default:
				control(t, s, g, ask, g, string([]byte{byte(value)}))
			}
		}
	}
}

// halts are the bits that the chapter has, endpoint by endpoint.
func halts() map[int]int {
	bits := map[int]int{}
	for k := range 16 {
		bits[k] = 1 << k
		bits[128+k] = 65536 << k
	}
	return bits
}

func TestHalts(t *testing.T) {
	for _, g := range stands() {
		for end, bit := range halts() {
			on, off := written(api.AHaltOn, 0, end, 0), written(api.AHaltOff, 0, end, 0)
			if g.State != 2 || !slices.Contains(richEnds(), end) {
				notDone(t, rich(), g, on, api.ErrStall)
				notDone(t, rich(), g, off, api.ErrStall)
				continue
			}
			with, without := g, g
			with.Halts |= bit
			without.Halts = with.Halts - bit
			control(t, rich(), g, on, with, "")
			control(t, rich(), with, on, with, "")
			control(t, rich(), g, off, without, "")
			control(t, rich(), without, off, without, "")
		}
	}
}

// oneEnd has an End of that way at that place of its Face, behind others that go the same way.
func oneEnd(face, place, addr int, in bool) api.Sheet {
	s := plain()
	s.Config.Faces = make([]api.Face, 4)
	f := &s.Config.Faces[face]
	for k := range place {
		f.Ends = append(f.Ends, api.End{Addr: 1 + (addr+k)%15, In: in, Max: 8})
	}
	f.Ends = append(f.Ends, api.End{Addr: addr, In: in, Max: 8})
	return s
}

func TestHaltsOfOneEnd(t *testing.T) {
	g := api.Gadget{State: 2, Addr: 5}
	for at := range 16 {
		for addr := 1; addr < 16; addr++ {
			for _, in := range []bool{false, true} {
				s := oneEnd(at/4, at%4, addr, in)
				number, other := addr, addr+128
				if in {
					number, other = other, number
				}
				want := g
				want.Halts = halts()[number]
				control(t, s, g, written(api.AHaltOn, 0, number, 0), want, "")
				control(t, s, want, written(api.AHaltOff, 0, number, 0), g, "")
				notDone(t, s, g, written(api.AHaltOn, 0, other, 0), api.ErrStall)
				notDone(t, s, g, written(api.AHaltOff, 0, other, 0), api.ErrStall)
			}
		}
	}
	for end := range halts() {
		if end%128 > 0 {
			notDone(t, plain(), g, written(api.AHaltOn, 0, end, 0), api.ErrStall)
		}
	}
}

// Whatever is asked, the device stands right behind it, and goes on.
func TestAnyAsks(t *testing.T) {
	d, s, g := dice{1}, rich(), api.Gadget{}
	var told [17]int
	var stood [3]int
	for range 200000 {
		ask := d.text(8)
		switch d.below(8) {
		case 0:
			ask = d.text(d.below(12))
		case 1, 2:
			ask = written(api.AHaltOn, 0, richEnds()[d.below(8)], 0)
		case 3:
			ask = written(api.AHaltOff, 0, d.below(16)+128*d.below(2), 0)
		case 4:
			ask = written(api.AAddress, d.below(128), 0, 0)
		case 5:
			ask = written(api.AConfigure, 200*d.below(2), 0, 0)
		case 6:
			ask = written(api.AConfigured, 0, 0, 1)
		case 7:
			ask = written(api.ADescribe, d.below(4)*256+d.below(5), d.below(65536), d.below(100))
		}
		next, said, code := Control(s, g, ask)
		if code != api.OK && (next != g || said != "") {
			t.Fatalf("%+v %x beside %d", next, said, code)
		}
		if _, _, again := Control(s, next, status); again != api.OK {
			t.Fatalf("Control(%+v, %x): %+v isn't right", g, ask, next)
		}
		g = next
		told[code]++
		stood[g.State]++
	}
	if told[api.OK] < 1000 || told[api.ErrStall] < 1000 || min(stood[0], stood[1], stood[2]) < 100 {
		t.Errorf("told %v, stood %v", told, stood)
	}
}

// P2

// roomy is s with lists that have spare room, and that room told.
func roomy(s api.Sheet) (api.Sheet, func() []any) {
	faces := append(make([]api.Face, 0, 8), s.Config.Faces...)
	for i := range faces {
		faces[i].Extra = append(make([]string, 0, 6), faces[i].Extra...)
		faces[i].Ends = append(make([]api.End, 0, 8), faces[i].Ends...)
	}
	texts := append(make([]string, 0, 12), s.Texts...)
	s.Config.Faces, s.Texts = faces, texts
	return s, func() []any {
		all := []any{slices.Clone(faces[:8]), slices.Clone(texts[:12])}
		for _, f := range faces {
			all = append(all, slices.Clone(f.Extra[:6]), slices.Clone(f.Ends[:8]))
		}
		return all
	}
}

func TestSheetIsLeft(t *testing.T) {
	s, room := roomy(rich())
	ahead := room()
	Check(s)
	for _, g := range stands() {
		for _, ask := range []string{
			status, "x",
			written(api.ADescribe, 512, 0, 3), written(api.ADescribe, 769, 0, 3),
			written(api.AAddress, 3, 0, 0), written(api.AConfigure, 200, 0, 0), written(api.AConfigured, 0, 0, 1),
			written(api.AHaltOn, 0, 130, 0), written(api.AHaltOff, 0, 130, 0),
		} {
			Control(s, g, ask)
			if !reflect.DeepEqual(ahead, room()) {
				t.Fatalf("Control(%+v, %x): the sheet was changed", g, ask)
			}
		}
	}
}

func TestSameAnswerAgain(t *testing.T) {
	ask, g := written(api.AConfigure, 200, 0, 0), api.Gadget{State: 1, Addr: 9}
	for range 3 {
		control(t, rich(), g, ask, api.Gadget{State: 2, Addr: 9}, "")
		control(t, rich(), g, written(api.AConfigured, 0, 0, 1), g, "\x00")
		Control(rich(), g, written(api.AAddress, 0, 0, 0))
		Check(api.Sheet{})
		check(t, rich(), api.OK)
	}
}
