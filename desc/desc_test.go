package desc

import (
	"math"
	"reflect"
	"slices"
	"strings"
	"testing"

	"plugtree/api"
	"plugtree/utf"
)

var far = []int{-1, -2, -255, -256, 1 << 16, 1 << 32, 1<<32 + 1, 1<<40 + 8, math.MinInt, math.MinInt + 1, math.MinInt32, math.MaxInt32, math.MaxInt}

// dice are numbers that are the same in each run.
type dice struct{ n uint64 }

func (d *dice) below(most int) int {
	d.n = d.n*6364136223846793005 + 1442695040888963407
	return int(d.n>>33) % most
}

func (d *dice) text(size int) string {
	text := make([]byte, size)
	for i := range text {
		text[i] = byte(d.below(256))
	}
	return string(text)
}

// raw is the text of these bytes.
func raw(numbers ...int) string {
	text := ""
	for _, n := range numbers {
		text += string([]byte{byte(n)})
	}
	return text
}

func low(n int) int  { return n % 256 }
func high(n int) int { return n / 256 }

// P6.1

func split(t *testing.T, s string, want ...string) {
	t.Helper()
	if got, code := Split(s); !slices.Equal(got, want) || code != api.OK {
		t.Errorf("Split(%x): %x %d, not %x", s, got, code, want)
	}
}

func notSplit(t *testing.T, s string, want api.Errno) {
	t.Helper()
	if got, code := Split(s); got != nil || code != want {
		t.Errorf("Split(%x): %x %d, not %d", s, got, code, want)
	}
}

func TestSplitKnown(t *testing.T) {
	split(t, "")
	split(t, "\x02\x00", "\x02\x00")
	split(t, "\x02\x07\x03\x08\x00", "\x02\x07", "\x03\x08\x00")
	split(t, "\x04\x02\x02\x02\x02\x01", "\x04\x02\x02\x02", "\x02\x01")
	split(t, "\x03\x00\x00\x03\x00\x00", "\x03\x00\x00", "\x03\x00\x00")
}

func TestSplitFirstByte(t *testing.T) {
	for first := range 256 {
		for size := 1; size <= 300; size++ {
			s := raw(first) + strings.Repeat("\x02", size-1)
			switch rest := size - first; {
			case first < 2:
				notSplit(t, s, api.ErrForm)
				notSplit(t, "\x03\x04\x05"+s, api.ErrForm)
			case rest < 0:
				notSplit(t, s, api.ErrShort)
				notSplit(t, "\x03\x04\x05"+s, api.ErrShort)
			case rest%2 == 1:
				notSplit(t, s, api.ErrShort)
			default:
				want := []string{s[:first]}
				for range rest / 2 {
					want = append(want, "\x02\x02")
				}
				split(t, s, want...)
			}
		}
	}
}

// What is wrong nearer to the front is told.
func TestSplitFromTheFront(t *testing.T) {
	notSplit(t, "\x01\x05", api.ErrForm)
	notSplit(t, "\x05\x01", api.ErrShort)
	notSplit(t, "\x05\x00\x00\x00", api.ErrShort)
	notSplit(t, "\x02\x00\x00\x09", api.ErrForm)
	notSplit(t, "\x02\x00\x09\x00\x01", api.ErrShort)
	notSplit(t, "\x00", api.ErrForm)
	notSplit(t, "\x02", api.ErrShort)
}

func TestSplitLimit(t *testing.T) {
	two, long := "\x02\xff", raw(255)+strings.Repeat("\x00", 254)
	split(t, strings.Repeat(two, 256), slices.Repeat([]string{two}, 256)...)
	split(t, long+long+two, long, long, two)
	notSplit(t, strings.Repeat(two, 255)+"\x03\x00", api.ErrShort)
	notSplit(t, strings.Repeat(two, 255)+"\x01\x00", api.ErrForm)
	notSplit(t, strings.Repeat(two, 255)+"\x03\x00\x00", api.ErrLarge)
	notSplit(t, strings.Repeat(two, 257), api.ErrLarge)
	notSplit(t, strings.Repeat("\x00", 513), api.ErrLarge)
	notSplit(t, strings.Repeat("\x00", 512), api.ErrForm)
	notSplit(t, strings.Repeat("\xff", 513), api.ErrLarge)
	notSplit(t, strings.Repeat("\xff", 512), api.ErrShort)
	notSplit(t, strings.Repeat("\x02", 1<<20), api.ErrLarge)
}

func TestSplitJoins(t *testing.T) {
	d := dice{1}
	for range 3000 {
		s, parts := "", []string(nil)
		for {
			size := 2 + d.below(254)
			if d.below(4) > 0 {
				size = 2 + d.below(10)
			}
			if len(s)+size > 512 {
				break
			}
			parts = append(parts, raw(size)+d.text(size-1))
			s += parts[len(parts)-1]
		}
		split(t, s, parts...)
	}
}

// P6.2

func someDevice() api.Device {
	return api.Device{
		Usb: 0x0201, Class: 3, Sub: 4, Proto: 5, Max0: 16, Vendor: 0x0706, Product: 0x0908,
		Release: 0x0b0a, Maker: 12, Name: 13, Serial: 14, Configs: 15,
	}
}

// byteFields are the fields of d that are bytes, with the places of these, but for Configs.
func byteFields(d *api.Device) map[int]*int {
	return map[int]*int{4: &d.Class, 5: &d.Sub, 6: &d.Proto, 14: &d.Maker, 15: &d.Name, 16: &d.Serial}
}

func wordFields(d *api.Device) map[int]*int {
	return map[int]*int{2: &d.Usb, 8: &d.Vendor, 10: &d.Product, 12: &d.Release}
}

func deviceBothWays(t *testing.T, d api.Device, s string) {
	t.Helper()
	if got, code := WriteDevice(d); got != s || code != api.OK {
		t.Errorf("WriteDevice(%+v): %x %d, not %x", d, got, code, s)
	}
	if got, code := ReadDevice(s); got != d || code != api.OK {
		t.Errorf("ReadDevice(%x): %+v %d, not %+v", s, got, code, d)
	}
}

func noDevice(t *testing.T, d api.Device) {
	t.Helper()
	if got, code := WriteDevice(d); got != "" || code != api.ErrArg {
		t.Errorf("WriteDevice(%+v): %x %d, not ErrArg", d, got, code)
	}
}

func notDevice(t *testing.T, s string, want api.Errno) {
	t.Helper()
	if got, code := ReadDevice(s); got != (api.Device{}) || code != want {
		t.Errorf("ReadDevice(%x): %+v %d, not %d", s, got, code, want)
	}
}

func replaced(s string, at int, with string) string { return s[:at] + with + s[at+len(with):] }

func TestDeviceKnown(t *testing.T) {
	deviceBothWays(t, someDevice(), "\x12\x01\x01\x02\x03\x04\x05\x10\x06\x07\x08\x09\x0a\x0b\x0c\x0d\x0e\x0f")
	deviceBothWays(t, api.Device{Max0: 8, Configs: 1}, "\x12\x01\x00\x00\x00\x00\x00\x08\x00\x00\x00\x00\x00\x00\x00\x00\x00\x01")
	deviceBothWays(t, api.Device{
		Usb: 65535, Class: 255, Sub: 255, Proto: 255, Max0: 64, Vendor: 65535, Product: 65535,
		Release: 65535, Maker: 255, Name: 255, Serial: 255, Configs: 255,
	}, "\x12\x01\xff\xff\xff\xff\xff\x40"+strings.Repeat("\xff", 10))
}

func TestDeviceBytes(t *testing.T) {
	base, _ := WriteDevice(someDevice())
	for at := range byteFields(new(api.Device)) {
		for n := -300; n <= 600; n++ {
			d := someDevice()
			*byteFields(&d)[at] = n
			if n < 0 || n > 255 {
				noDevice(t, d)
			} else {
				deviceBothWays(t, d, replaced(base, at, raw(n)))
			}
		}
		for _, n := range far {
			d := someDevice()
			*byteFields(&d)[at] = n
			noDevice(t, d)
		}
	}
}

func TestDeviceWords(t *testing.T) {
	base, _ := WriteDevice(someDevice())
	for at := range wordFields(new(api.Device)) {
		for n := range 65536 {
			d := someDevice()
			*wordFields(&d)[at] = n
			deviceBothWays(t, d, replaced(base, at, raw(low(n), high(n))))
		}
		for _, n := range append([]int{65536, 65537, 1 << 17}, far...) {
			d := someDevice()
			*wordFields(&d)[at] = n
			noDevice(t, d)
		}
	}
}

func TestDeviceMax0AndConfigs(t *testing.T) {
	base, _ := WriteDevice(someDevice())
	numbers := slices.Clone(far)
	for n := -300; n <= 600; n++ {
		numbers = append(numbers, n)
	}
	for _, n := range numbers {
		d := someDevice()
		d.Max0 = n
		if n == 8 || n == 16 || n == 32 || n == 64 {
			deviceBothWays(t, d, replaced(base, 7, raw(n)))
		} else {
			noDevice(t, d)
		}
		d = someDevice()
		d.Configs = n
		if 1 <= n && n <= 255 {
			deviceBothWays(t, d, replaced(base, 17, raw(n)))
		} else {
			noDevice(t, d)
		}
	}
	noDevice(t, api.Device{})
}

func TestReadDeviceSizes(t *testing.T) {
	base, _ := WriteDevice(someDevice())
	for size := range 18 {
		notDevice(t, base[:size], api.ErrShort)
		notDevice(t, strings.Repeat("\x00", size), api.ErrShort)
		notDevice(t, strings.Repeat("\x12", size), api.ErrShort)
	}
	for more := 1; more < 300; more++ {
		notDevice(t, base+strings.Repeat("\x00", more), api.ErrForm)
		notDevice(t, raw(18+more)+base[1:]+strings.Repeat("\x00", more), api.ErrForm)
	}
	notDevice(t, base+base, api.ErrForm)
	notDevice(t, strings.Repeat("\x12", 1<<20), api.ErrForm)
}

func TestReadDeviceEachByte(t *testing.T) {
	base, _ := WriteDevice(someDevice())
	for at := range 18 {
		for n := range 256 {
			s := replaced(base, at, raw(n))
			wrong := at == 0 && n != 18 || at == 1 && n != 1 || at == 17 && n == 0 ||
				at == 7 && n != 8 && n != 16 && n != 32 && n != 64
			if wrong {
				notDevice(t, s, api.ErrForm)
			} else if d, code := ReadDevice(s); code != api.OK {
				t.Errorf("ReadDevice(%x): %d", s, code)
			} else {
				deviceBothWays(t, d, s)
			}
		}
	}
}

// P6.3

// written are the bytes of c, as the chapter lines them up.
func written(c api.Config) string {
	body := ""
	for i, f := range c.Faces {
		body += raw(9, 4, i, 0, len(f.Ends), f.Class, f.Sub, f.Proto, f.Name) + strings.Join(f.Extra, "")
		for _, e := range f.Ends {
			addr := e.Addr
			if e.In {
				addr += 128
			}
			body += raw(7, 5, addr, e.Kind, low(e.Max), high(e.Max), e.Interval)
		}
	}
	all := 9 + len(body)
	return raw(9, 2, low(all), high(all), len(c.Faces), c.Value, c.Name, c.Attr, c.Power) + body
}

// same holds two Configs against each other; a list with nothing in it may be nil.
func same(a, b api.Config) bool {
	return a.Value == b.Value && a.Name == b.Name && a.Attr == b.Attr && a.Power == b.Power &&
		slices.EqualFunc(a.Faces, b.Faces, func(f, g api.Face) bool {
			return f.Class == g.Class && f.Sub == g.Sub && f.Proto == g.Proto && f.Name == g.Name &&
				slices.Equal(f.Extra, g.Extra) && slices.Equal(f.Ends, g.Ends)
		})
}

func configBothWays(t *testing.T, c api.Config, s string) {
	t.Helper()
	if got, code := WriteConfig(c); got != s || code != api.OK {
		t.Errorf("WriteConfig(%+v): %x %d, not %x", c, got, code, s)
	}
	if got, code := ReadConfig(s); !same(got, c) || code != api.OK {
		t.Errorf("ReadConfig(%x): %+v %d, not %+v", s, got, code, c)
	}
}

func noConfig(t *testing.T, c api.Config, want api.Errno) {
	t.Helper()
	if got, code := WriteConfig(c); got != "" || code != want {
		t.Errorf("WriteConfig(%+v): %x %d, not %d", c, got, code, want)
	}
}

// someConfig has two Faces; its second one has an Extra ahead of its Ends.
func someConfig() api.Config {
	return api.Config{Value: 1, Name: 2, Attr: 128, Power: 50, Faces: []api.Face{
		{Class: 8, Sub: 6, Proto: 80, Name: 3, Ends: []api.End{
			{Addr: 1, In: true, Kind: 2, Max: 64},
			{Addr: 1, Kind: 2, Max: 64},
		}},
		{Class: 3, Sub: 1, Proto: 1, Name: 4, Extra: []string{"\x04\x21ab", "\x02\x06"}, Ends: []api.End{
			{Addr: 15, In: true, Kind: 3, Max: 8, Interval: 10},
		}},
	}}
}

func widest() api.Config {
	c := api.Config{Value: 255, Name: 255, Attr: 255, Power: 255}
	extra := "\x20\xff" + strings.Repeat("\x00", 30)
	for i := range 4 {
		f := api.Face{Class: 255, Sub: 255, Proto: 255, Name: 255, Extra: []string{extra, extra}}
		for k := range 4 {
			n := 4*i + k
			f.Ends = append(f.Ends, api.End{Addr: 1 + n/2, In: n%2 == 1, Kind: 3, Max: 64, Interval: 255})
		}
		c.Faces = append(c.Faces, f)
	}
	return c
}

func TestConfigKnown(t *testing.T) {
	configBothWays(t, api.Config{Value: 1}, "\x09\x02\x09\x00\x00\x01\x00\x00\x00")
	configBothWays(t, api.Config{Value: 255, Name: 254, Attr: 253, Power: 252}, "\x09\x02\x09\x00\x00\xff\xfe\xfd\xfc")
	configBothWays(t, api.Config{Value: 1, Faces: []api.Face{{}, {}}},
		"\x09\x02\x1b\x00\x02\x01\x00\x00\x00"+"\x09\x04\x00\x00\x00\x00\x00\x00\x00"+"\x09\x04\x01\x00\x00\x00\x00\x00\x00")
	configBothWays(t, someConfig(), "\x09\x02\x36\x00\x02\x01\x02\x80\x32"+
		"\x09\x04\x00\x00\x02\x08\x06\x50\x03"+"\x07\x05\x81\x02\x40\x00\x00"+"\x07\x05\x01\x02\x40\x00\x00"+
		"\x09\x04\x01\x00\x01\x03\x01\x01\x04"+"\x04\x21ab"+"\x02\x06"+"\x07\x05\x8f\x03\x08\x00\x0a")
	if s, _ := WriteConfig(widest()); len(s) != 413 || s[2:4] != "\x9d\x01" {
		t.Errorf("%d bytes: %x", len(s), s)
	}
	configBothWays(t, widest(), written(widest()))
}

// numbersOf are the fields of c, of its second Face and of that one's End, with the bounds of each.
func numbersOf(c *api.Config) []struct {
	at          *int
	least, most int
} {
	f := &c.Faces[1]
	e := &f.Ends[0]
	return []struct {
		at          *int
		least, most int
	}{
		{&c.Value, 1, 255}, {&c.Name, 0, 255}, {&c.Attr, 0, 255}, {&c.Power, 0, 255},
		{&f.Class, 0, 255}, {&f.Sub, 0, 255}, {&f.Proto, 0, 255}, {&f.Name, 0, 255},
		{&e.Addr, 1, 15}, {&e.Kind, 0, 3}, {&e.Max, 1, 64}, {&e.Interval, 0, 255},
	}
}

func TestConfigNumbers(t *testing.T) {
	numbers := slices.Clone(far)
	for n := -300; n <= 600; n++ {
		numbers = append(numbers, n)
	}
	shape := someConfig()
	for i := range numbersOf(&shape) {
		for _, n := range numbers {
			c := someConfig()
			// Else Addr 1 would be there twice.
			c.Faces[0].Ends = c.Faces[0].Ends[1:]
			one := numbersOf(&c)[i]
			*one.at = n
			if one.least <= n && n <= one.most {
				configBothWays(t, c, written(c))
			} else {
				noConfig(t, c, api.ErrArg)
			}
		}
	}
}

func TestConfigCounts(t *testing.T) {
	for count := range 10 {
		c := api.Config{Value: 1, Faces: make([]api.Face, count)}
		counted(t, c, count <= 4)
		f := api.Face{Extra: slices.Repeat([]string{"\x02\x06"}, count)}
		counted(t, api.Config{Value: 1, Faces: []api.Face{f}}, count <= 2)
		counted(t, api.Config{Value: 1, Faces: []api.Face{{}, {}, {}, f}}, count <= 2)
		f = api.Face{}
		for addr := range count {
			f.Ends = append(f.Ends, api.End{Addr: addr + 1, Max: 1})
		}
		counted(t, api.Config{Value: 1, Faces: []api.Face{f}}, count <= 4)
		counted(t, api.Config{Value: 1, Faces: []api.Face{{}, {}, {}, f}}, count <= 4)
	}
	counted(t, api.Config{Value: 1, Faces: make([]api.Face, 1<<16)}, false)
	counted(t, api.Config{Value: 1, Faces: []api.Face{{Ends: make([]api.End, 1<<16)}}}, false)
	counted(t, api.Config{Value: 1, Faces: []api.Face{{Extra: make([]string, 1<<16)}}}, false)
}

func counted(t *testing.T, c api.Config, fits bool) {
	t.Helper()
	if fits {
		configBothWays(t, c, written(c))
	} else {
		noConfig(t, c, api.ErrLarge)
	}
}

func TestConfigExtra(t *testing.T) {
	with := func(extra ...string) api.Config {
		return api.Config{Value: 1, Faces: []api.Face{{}, {Extra: extra, Ends: []api.End{{Addr: 1, Max: 1}}}}}
	}
	for size := range 300 {
		text := strings.Repeat("\x09", size)
		for first := range 256 {
			if size > 0 {
				text = raw(first) + text[1:]
			}
			good := size >= 2 && size <= 32 && first == size
			for _, c := range []api.Config{with(text), with("\x02\xff", text), with(text, "\x02\xff")} {
				if good {
					configBothWays(t, c, written(c))
				} else {
					noConfig(t, c, api.ErrArg)
				}
			}
		}
	}
	for second := range 256 {
		for _, size := range []int{2, 7, 9, 32} {
			c := with(raw(size, second) + strings.Repeat("\x00", size-2))
			if second >= 6 {
				configBothWays(t, c, written(c))
			} else {
				noConfig(t, c, api.ErrArg)
			}
		}
	}
	noConfig(t, with(""), api.ErrArg)
	noConfig(t, with(strings.Repeat("\x09", 1<<20)), api.ErrArg)
}

// Each two places of Ends, with each two ways.
func TestConfigTwice(t *testing.T) {
	for one := range 16 {
		for two := range one {
			for addr := 1; addr <= 15; addr++ {
				for _, in := range []bool{false, true} {
					c := widest()
					for i := range 16 {
						*endAt(&c, i) = api.End{Addr: 1 + i%15, In: i == 15, Max: 1}
					}
					e := endAt(&c, one)
					*e = api.End{Addr: addr, In: in, Kind: 1, Max: 2, Interval: 3}
					ways := map[api.End]int{}
					for i := range 16 {
						ways[api.End{Addr: endAt(&c, i).Addr, In: endAt(&c, i).In}]++
					}
					if len(ways) == 16 {
						configBothWays(t, c, written(c))
					} else {
						noConfig(t, c, api.ErrTwice)
					}
					*endAt(&c, two) = *e
					noConfig(t, c, api.ErrTwice)
				}
			}
		}
	}
}

func endAt(c *api.Config, i int) *api.End { return &c.Faces[i/4].Ends[i%4] }

// The deeds of spoils stand in the chapter's order: of each two the one that comes first is told.
func TestConfigErrorsInOrder(t *testing.T) {
	face := func(i int) []spoil {
		return []spoil{
			{api.ErrArg, func(c *api.Config) { c.Faces[i].Proto = 256 }},
			{api.ErrLarge, func(c *api.Config) { c.Faces[i].Extra = append(c.Faces[i].Extra, "\x02\x06") }},
			{api.ErrArg, func(c *api.Config) { c.Faces[i].Extra[0] = "\x02\x05" }},
			{api.ErrLarge, func(c *api.Config) { c.Faces[i].Ends = append(c.Faces[i].Ends, api.End{Addr: 9, Max: 1}) }},
			{api.ErrArg, func(c *api.Config) { c.Faces[i].Ends[0].Kind = 4 }},
			{api.ErrArg, func(c *api.Config) { c.Faces[i].Ends[1].Max = 65 }},
			{api.ErrTwice, func(c *api.Config) { c.Faces[i].Ends[1].Addr, c.Faces[i].Ends[1].In = 1+2*i, false }},
			{api.ErrArg, func(c *api.Config) { c.Faces[i].Ends[2].Interval = -1 }},
			{api.ErrTwice, func(c *api.Config) { c.Faces[i].Ends[3].Addr, c.Faces[i].Ends[3].In = 1, false }},
		}
	}
	spoils := []spoil{
		{api.ErrArg, func(c *api.Config) { c.Power = -1 }},
		{api.ErrLarge, func(c *api.Config) { c.Faces = append(c.Faces, api.Face{}) }},
	}
	for i := range 4 {
		spoils = append(spoils, face(i)...)
	}
	for i, one := range spoils {
		c := widest()
		one.do(&c)
		noConfig(t, c, one.want)
		for _, two := range spoils[i+1:] {
			c := widest()
			one.do(&c)
			two.do(&c)
			noConfig(t, c, one.want)
		}
	}
}

type spoil struct {
	want api.Errno
	do   func(*api.Config)
}

func (d *dice) end() api.End {
	return api.End{Addr: 1 + d.below(15), In: d.below(2) == 1, Kind: d.below(4), Max: 1 + d.below(64), Interval: d.below(256)}
}

// config is one whose Ends are in order but that two of them may have the same way.
func (d *dice) config() api.Config {
	c := api.Config{Value: 1 + d.below(255), Name: d.below(256), Attr: d.below(256), Power: d.below(256)}
	for range d.below(5) {
		f := api.Face{Class: d.below(256), Sub: d.below(256), Proto: d.below(256), Name: d.below(256)}
		for range d.below(3) {
			size := 2 + d.below(31)
			f.Extra = append(f.Extra, raw(size, 6+d.below(250))+d.text(size-2))
		}
		for range d.below(5) {
			f.Ends = append(f.Ends, d.end())
		}
		c.Faces = append(c.Faces, f)
	}
	return c
}

func TestConfigsOfManyShapes(t *testing.T) {
	d := dice{2}
	good := 0
	for range 20000 {
		c := d.config()
		ways, ends := map[api.End]int{}, 0
		for _, f := range c.Faces {
			for _, e := range f.Ends {
				ways[api.End{Addr: e.Addr, In: e.In}]++
				ends++
			}
		}
		if len(ways) < ends {
			noConfig(t, c, api.ErrTwice)
			continue
		}
		good++
		configBothWays(t, c, written(c))
	}
	if good < 1000 {
		t.Errorf("only %d of them were good", good)
	}
}

// P6.4

// expected reads s by the numbers that it tells, from the front, as the chapter writes it.
func expected(s string) (api.Config, bool) {
	if len(s) < 9 || s[:2] != "\x09\x02" || s[2:4] != raw(low(len(s)), high(len(s))) || s[4] > 4 || s[5] == 0 {
		return api.Config{}, false
	}
	c := api.Config{Value: int(s[5]), Name: int(s[6]), Attr: int(s[7]), Power: int(s[8])}
	ways := map[byte]int{}
	faces := int(s[4])
	s = s[9:]
	for i := range faces {
		if len(s) < 9 || s[:4] != raw(9, 4, i, 0) || s[4] > 4 {
			return api.Config{}, false
		}
		f := api.Face{Class: int(s[5]), Sub: int(s[6]), Proto: int(s[7]), Name: int(s[8])}
		ends := int(s[4])
		s = s[9:]
		for len(s) >= 2 && s[1] >= 6 {
			size := int(s[0])
			if size < 2 || size > 32 || size > len(s) || len(f.Extra) == 2 {
				return api.Config{}, false
			}
			f.Extra, s = append(f.Extra, s[:size]), s[size:]
		}
		for range ends {
			if len(s) < 7 || s[:2] != "\x07\x05" || s[2]%128 < 1 || s[2]%128 > 15 || s[3] > 3 || s[4] < 1 || s[4] > 64 || s[5] != 0 || ways[s[2]] > 0 {
				return api.Config{}, false
			}
			ways[s[2]]++
			f.Ends = append(f.Ends, api.End{Addr: int(s[2] % 128), In: s[2] >= 128, Kind: int(s[3]), Max: int(s[4]), Interval: int(s[6])})
			s = s[7:]
		}
		c.Faces = append(c.Faces, f)
	}
	return c, s == ""
}

// splitError is what Split has to tell of s.
func splitError(s string) api.Errno {
	if len(s) > 512 {
		return api.ErrLarge
	}
	for at := 0; at < len(s); at += int(s[at]) {
		if s[at] < 2 {
			return api.ErrForm
		}
		if at+int(s[at]) > len(s) {
			return api.ErrShort
		}
	}
	return api.OK
}

// asExpected holds ReadConfig against the ways above, and tells what it answers.
func asExpected(t *testing.T, s string) api.Errno {
	t.Helper()
	want, good := expected(s)
	code := splitError(s)
	if code == api.OK && !good {
		code = api.ErrForm
	}
	if code != api.OK {
		want = api.Config{}
	}
	got, gotCode := ReadConfig(s)
	if gotCode != code || !same(got, want) {
		t.Errorf("ReadConfig(%x): %+v %d, not %+v %d", s, got, gotCode, want, code)
	}
	if code != api.OK && !reflect.DeepEqual(got, api.Config{}) {
		t.Errorf("ReadConfig(%x): %+v beside %d", s, got, code)
	}
	if code == api.OK {
		if again, code := WriteConfig(got); again != s || code != api.OK {
			t.Errorf("ReadConfig(%x) is %+v, and its bytes are %x %d", s, got, again, code)
		}
	}
	return code
}

func notConfig(t *testing.T, s string, want api.Errno) {
	t.Helper()
	if code := asExpected(t, s); code != want {
		t.Errorf("ReadConfig(%x): %d, not %d", s, code, want)
	}
}

func TestReadConfigWrong(t *testing.T) {
	head := func(faces, size int) string { return raw(9, 2, low(size), high(size), faces, 1, 0, 0, 0) }
	face := func(number, ends int) string { return raw(9, 4, number, 0, ends, 1, 2, 3, 4) }
	end, other, extra := raw(7, 5, 1, 0, 8, 0, 0), raw(7, 5, 129, 0, 8, 0, 0), "\x03\x21a"
	notConfig(t, "", api.ErrForm)
	notConfig(t, "\x00", api.ErrForm)
	notConfig(t, "\x01", api.ErrForm)
	notConfig(t, "\x02", api.ErrShort)
	notConfig(t, "\x09", api.ErrShort)
	notConfig(t, "\x02\x02", api.ErrForm)
	notConfig(t, strings.Repeat("\x02", 512), api.ErrForm)
	notConfig(t, strings.Repeat("\x02", 513), api.ErrLarge)
	notConfig(t, head(0, 9), api.OK)
	notConfig(t, head(0, 9)+"\x00", api.ErrForm)
	notConfig(t, head(0, 9)+"\x05", api.ErrShort)
	notConfig(t, "\x0a"+head(0, 10)[1:]+"\x00", api.ErrForm)
	notConfig(t, "\x08"+head(0, 8)[1:8], api.ErrForm)
	notConfig(t, head(0, 8), api.ErrForm)
	notConfig(t, head(0, 9+256), api.ErrForm)
	notConfig(t, head(1, 9), api.ErrForm)
	notConfig(t, head(0, 18), api.ErrForm)
	notConfig(t, head(0, 18)+face(0, 0), api.ErrForm)
	notConfig(t, head(1, 18)+face(0, 0), api.OK)
	notConfig(t, head(1, 18)+face(1, 0), api.ErrForm)
	notConfig(t, head(2, 27)+face(0, 0)+face(1, 0), api.OK)
	notConfig(t, head(2, 27)+face(1, 0)+face(0, 0), api.ErrForm)
	notConfig(t, head(2, 27)+face(0, 0)+face(0, 0), api.ErrForm)
	notConfig(t, head(0, 16)+end, api.ErrForm)
	notConfig(t, head(0, 12)+extra, api.ErrForm)
	notConfig(t, head(1, 25)+end+face(0, 1), api.ErrForm)
	notConfig(t, head(1, 21)+extra+face(0, 0), api.ErrForm)
	notConfig(t, head(1, 28)+face(0, 1)+extra+end, api.OK)
	notConfig(t, head(1, 28)+face(0, 1)+end+extra, api.ErrForm)
	notConfig(t, head(1, 32)+face(0, 2)+end+other, api.OK)
	notConfig(t, head(1, 32)+face(0, 2)+end+end, api.ErrForm)
	notConfig(t, head(1, 32)+face(0, 1)+end+other, api.ErrForm)
	notConfig(t, head(1, 32)+face(0, 3)+end+other, api.ErrForm)
	notConfig(t, head(2, 41)+face(0, 1)+end+face(1, 1)+other, api.OK)
	notConfig(t, head(2, 41)+face(0, 1)+end+face(1, 1)+end, api.ErrForm)
	notConfig(t, head(2, 41)+face(0, 2)+end+face(1, 0)+other, api.ErrForm)
	notConfig(t, head(1, 27)+face(0, 0)+head(0, 9), api.ErrForm)
	notConfig(t, head(1, 26)+face(0, 1)+raw(8, 5, 1, 0, 8, 0, 0, 0), api.ErrForm)
	notConfig(t, head(1, 24)+face(0, 1)+raw(6, 5, 1, 0, 8, 0), api.ErrForm)
	notConfig(t, head(1, 19)+raw(10, 4, 0, 0, 0, 1, 2, 3, 4, 0), api.ErrForm)
	notConfig(t, head(1, 17)+raw(8, 4, 0, 0, 0, 1, 2, 3), api.ErrForm)
	notConfig(t, head(5, 54)+face(0, 0)+face(1, 0)+face(2, 0)+face(3, 0)+face(4, 0), api.ErrForm)
	notConfig(t, head(1, 24)+face(0, 0)+extra+extra, api.OK)
	notConfig(t, head(1, 27)+face(0, 0)+extra+extra+extra, api.ErrForm)
	notConfig(t, head(1, 50)+face(0, 0)+raw(32, 9)+strings.Repeat("\x00", 30), api.OK)
	notConfig(t, head(1, 51)+face(0, 0)+raw(33, 9)+strings.Repeat("\x00", 31), api.ErrForm)
}

func TestReadConfigEachByte(t *testing.T) {
	for _, c := range []api.Config{{Value: 1}, someConfig(), widest()} {
		s := written(c)
		for at := range len(s) {
			asExpected(t, s[:at])
			asExpected(t, s[at:])
			for n := range 256 {
				asExpected(t, replaced(s, at, raw(n)))
				asExpected(t, s[:at]+raw(n)+s[at:])
			}
			asExpected(t, s[:at]+s[at+1:])
		}
	}
}

// spoilt is s with a few of its bytes or its descriptors changed, and perhaps with its size put right.
func (d *dice) spoilt(s string) string {
	parts, _ := Split(s)
	for range 1 + d.below(2) {
		at := d.below(len(parts))
		switch d.below(5) {
		case 0:
			parts = slices.Delete(parts, at, at+1)
		case 1:
			parts = slices.Insert(parts, at, parts[d.below(len(parts))])
		case 2:
			other := d.below(len(parts))
			parts[at], parts[other] = parts[other], parts[at]
		default:
			part := []byte(parts[at])
			part[d.below(len(part))] = byte(d.below(16))
			parts[at] = string(part)
		}
		if len(parts) == 0 {
			return ""
		}
	}
	s = strings.Join(parts, "")
	if len(s) > 4 && d.below(4) > 0 {
		s = replaced(s, 2, raw(low(len(s)), high(len(s))))
	}
	return s
}

func TestReadConfigSpoilt(t *testing.T) {
	d := dice{3}
	var told [17]int
	for range 100000 {
		s := written(d.config())
		told[asExpected(t, d.spoilt(s))]++
	}
	for _, code := range []api.Errno{api.OK, api.ErrShort, api.ErrForm} {
		if told[code] < 100 {
			t.Errorf("%d was told %d times only", code, told[code])
		}
	}
}

func TestReadConfigAnyBytes(t *testing.T) {
	d := dice{4}
	for range 50000 {
		asExpected(t, d.text(d.below(40)))
	}
	for range 200 {
		asExpected(t, d.text(d.below(1000)))
		asExpected(t, strings.Repeat("\x09\x04\x00\x00\x00\x00\x00\x00\x00", d.below(60)))
	}
	asExpected(t, strings.Repeat("\x02", 1<<20))
}

// P6.5

func textBothWays(t *testing.T, s, want string) {
	t.Helper()
	if got, code := WriteText(s); got != want || code != api.OK {
		t.Errorf("WriteText(%x): %x %d, not %x", s, got, code, want)
	}
	if got, code := ReadText(want); got != s || code != api.OK {
		t.Errorf("ReadText(%x): %x %d, not %x", want, got, code, s)
	}
}

func noText(t *testing.T, s string) {
	t.Helper()
	if got, code := WriteText(s); got != "" || code != api.ErrLarge {
		t.Errorf("WriteText of %d bytes: %x %d, not ErrLarge", len(s), got, code)
	}
}

func notText(t *testing.T, s string, want api.Errno) {
	t.Helper()
	if got, code := ReadText(s); got != "" || code != want {
		t.Errorf("ReadText(%x): %x %d, not %d", s, got, code, want)
	}
}

func TestTextKnown(t *testing.T) {
	textBothWays(t, "", "\x02\x03")
	textBothWays(t, "hub", "\x08\x03h\x00u\x00b\x00")
	textBothWays(t, "\u20ac", "\x04\x03\xac\x20")
	textBothWays(t, "\U0001d11e", "\x06\x03\x34\xd8\x1e\xdd")
	if got, code := WriteText("a\xffb"); got != "\x08\x03a\x00\xfd\xffb\x00" || code != api.OK {
		t.Errorf("%x %d", got, code)
	}
	if got, code := ReadText("\x06\x03\x34\xd8a\x00"); got != "\ufffda" || code != api.OK {
		t.Errorf("%x %d", got, code)
	}
}

func TestTextLimit(t *testing.T) {
	for count := range 127 {
		textBothWays(t, strings.Repeat("a", count), raw(2+2*count, 3)+strings.Repeat("a\x00", count))
	}
	for count := range 64 {
		textBothWays(t, strings.Repeat("\U0001d11e", count), raw(2+4*count, 3)+strings.Repeat("\x34\xd8\x1e\xdd", count))
	}
	for _, count := range []int{127, 128, 129, 254, 255, 256, 1 << 20} {
		noText(t, strings.Repeat("a", count))
	}
	noText(t, strings.Repeat("\U0001d11e", 64))
	noText(t, strings.Repeat("\xff", 127))
}

func TestReadTextSizes(t *testing.T) {
	notText(t, "", api.ErrShort)
	for n := range 256 {
		notText(t, raw(n), api.ErrShort)
	}
	for size := 2; size < 600; size++ {
		rest := strings.Repeat("a\x00", size)[:size-2]
		for first := range 256 {
			s := raw(first, 3) + rest
			if first != size || size%2 == 1 {
				notText(t, s, api.ErrForm)
			} else {
				textBothWays(t, strings.Repeat("a", size/2-1), s)
			}
		}
	}
	notText(t, "\x02\x03"+strings.Repeat("\x00", 1<<20), api.ErrForm)
}

func TestReadTextType(t *testing.T) {
	for n := range 256 {
		if n != 3 {
			notText(t, raw(2, n), api.ErrForm)
			notText(t, raw(4, n)+"a\x00", api.ErrForm)
		}
	}
}

func TestTextAnyBytes(t *testing.T) {
	d := dice{5}
	for range 20000 {
		s := d.text(d.below(254))
		wide, wideCode := utf.Wide(s)
		if wideCode == api.OK {
			wide = raw(2+len(wide), 3) + wide
		}
		if got, code := WriteText(s); got != wide || code != wideCode {
			t.Errorf("WriteText(%x): %x %d, not %x %d", s, got, code, wide, wideCode)
		}
		narrow, narrowCode := utf.Narrow(s)
		if got, code := ReadText(raw(2+len(s), 3) + s); got != narrow || code != narrowCode {
			t.Errorf("ReadText of %x: %x %d, not %x %d", s, got, code, narrow, narrowCode)
		}
	}
}

// P2

// roomy is c with lists that have spare room, and that room told.
func roomy(c api.Config) (api.Config, func() []any) {
	faces := append(make([]api.Face, 0, 8), c.Faces...)
	for i := range faces {
		faces[i].Extra = append(make([]string, 0, 6), faces[i].Extra...)
		faces[i].Ends = append(make([]api.End, 0, 8), faces[i].Ends...)
	}
	c.Faces = faces
	return c, func() []any {
		all := []any{slices.Clone(faces[:8])}
		for _, f := range faces {
			all = append(all, slices.Clone(f.Extra[:6]), slices.Clone(f.Ends[:8]))
		}
		return all
	}
}

func TestWriteConfigLeavesWhatIsHandedIn(t *testing.T) {
	for _, one := range []api.Config{someConfig(), widest(), {Value: 0, Faces: make([]api.Face, 3)}} {
		c, room := roomy(one)
		ahead := room()
		WriteConfig(c)
		if !reflect.DeepEqual(ahead, room()) {
			t.Errorf("%+v was changed", one)
		}
	}
}

// Each list is filled up to its room; no other one, and no other answer, may see that.
func TestReadConfigSharesNothing(t *testing.T) {
	for _, want := range []api.Config{someConfig(), widest()} {
		s := written(want)
		for i := range want.Faces {
			for _, spoil := range []func(c *api.Config){
				func(c *api.Config) { fill(c.Faces[i].Ends, api.End{Addr: 77}) },
				func(c *api.Config) { fill(c.Faces[i].Extra, "spoilt") },
			} {
				c, _ := ReadConfig(s)
				again, _ := ReadConfig(s)
				spoil(&c)
				if !same(again, want) {
					t.Errorf("another answer has changed: %+v", again)
				}
				for k := range want.Faces {
					if i != k && !same(api.Config{Faces: c.Faces[k : k+1]}, api.Config{Faces: want.Faces[k : k+1]}) {
						t.Errorf("Face %d has changed with %d: %+v", k, i, c)
					}
				}
			}
		}
	}
}

func fill[T any](list []T, with T) {
	list = list[:cap(list)]
	for i := range list {
		list[i] = with
	}
}

func TestSplitAnswersNewMemory(t *testing.T) {
	s := "\x02\x07\x03\x08\x00"
	first, _ := Split(s)
	fill(first, "spoilt")
	split(t, s, "\x02\x07", "\x03\x08\x00")
}

func TestSameAnswerAgain(t *testing.T) {
	device, _ := WriteDevice(someDevice())
	config, _ := WriteConfig(someConfig())
	text, _ := WriteText("hub")
	WriteConfig(widest())
	WriteDevice(api.Device{})
	ReadConfig("\x09")
	ReadText("x")
	Split("\x00")
	deviceBothWays(t, someDevice(), device)
	configBothWays(t, someConfig(), config)
	textBothWays(t, "hub", text)
}
