package greet

import (
	"math"
	"reflect"
	"slices"
	"strings"
	"testing"

	"plugtree/api"
	"plugtree/desc"
	"plugtree/gadget"
)

// far are numbers that are out of all bounds, many of them such that their lower bits are within.
var far = []int{-1, -2, -3, -127, -128, -256, 1 << 16, 1<<16 + 1, 1<<31 + 1, 1 << 32, 1<<32 + 1, 1<<32 + 2, 1<<32 + 9, 1<<62 + 1, math.MinInt, math.MinInt + 1, math.MinInt + 2, math.MinInt32, math.MaxInt}

// codes are those that may be told beside an answer, such that are none included.
var codes = []api.Errno{0, 1, 2, 3, 4, 5, 6, 7, 8, 9, 10, 11, 12, 13, 14, 15, 16, 17, -1, 1 << 32, math.MinInt, math.MaxInt}

var fates = []int{api.FGood, api.FLost, api.FDeaf, api.FBusy, api.FStall}

// dice are numbers that are the same in each run.
type dice struct{ n uint64 }

func (d *dice) below(most int) int {
	d.n = d.n*6364136223846793005 + 1442695040888963407
	return int(d.n>>33) % most
}

func (d *dice) text(size int) string {
	text := make([]byte, size)
	for i := range text {
		text[i] = byte(d.below(256))
	}
	return string(text)
}

// plain is a sheet without a text.
func plain() api.Sheet {
	return api.Sheet{Device: api.Device{Max0: 8, Configs: 1}, Config: api.Config{Value: 1}}
}

// rich is a sheet with three texts; the third one is its Serial.
func rich() api.Sheet {
	return api.Sheet{
		Device: api.Device{Usb: 0x200, Class: 9, Sub: 1, Proto: 2, Max0: 64, Vendor: 0x1234, Product: 0x5678, Release: 0x9abc, Maker: 1, Name: 2, Serial: 3, Configs: 1},
		Config: api.Config{Value: 200, Name: 3, Attr: 0xe0, Power: 50, Faces: []api.Face{
			{Class: 3, Sub: 1, Proto: 1, Name: 2, Extra: []string{"\x03\x21a", "\x02\x06"}, Ends: []api.End{
				{Addr: 1, Kind: 2, Max: 64},
				{Addr: 2, In: true, Kind: 3, Max: 8, Interval: 10},
			}},
			{Class: 8, Name: 1, Ends: []api.End{{Addr: 2, Kind: 2, Max: 64}}},
			{},
		}},
		Texts: []string{"us", "", "A1\u20ac"},
	}
}

// longest is a sheet of which each descriptor has as many bytes as it can have.
func longest() api.Sheet {
	s := rich()
	s.Device.Serial = 8
	s.Texts = []string{"", "", "", "", "", "", "", strings.Repeat("\U0001d11e", 63)}
	s.Config.Faces = nil
	for face := range 4 {
		f := api.Face{Extra: []string{"\x20\xff" + strings.Repeat("a", 30), "\x20\xfe" + strings.Repeat("b", 30)}}
		for k := range 4 {
			f.Ends = append(f.Ends, api.End{Addr: 1 + (4*face+k)%15, In: face == 3, Max: 64})
		}
		s.Config.Faces = append(s.Config.Faces, f)
	}
	return s
}

// at is a greeting that stands at a step, with a device of that sheet.
func at(step, tries int, s api.Sheet) api.Greeting {
	text, _ := desc.WriteConfig(s.Config)
	return api.Greeting{Step: step, Tries: tries, Addr: 5, Max0: s.Device.Max0, Total: len(text), Device: s.Device, Config: s.Config, Serial: "old"}
}

// same compares two greetings, of which lists that have nothing in them may be nil or empty.
func same(a, b api.Greeting) bool { return reflect.DeepEqual(neat(a), neat(b)) }

func neat(g api.Greeting) api.Greeting {
	g.Config.Faces = append([]api.Face{}, g.Config.Faces...)
	for i, f := range g.Config.Faces {
		g.Config.Faces[i].Extra = append([]string{}, f.Extra...)
		g.Config.Faces[i].Ends = append([]api.End{}, f.Ends...)
	}
	return g
}

// What follows, up to the tests, is what the chapter says, word by word.

func rightByWords(g api.Greeting) bool {
	switch {
	case g.Step < 1, g.Step > 9, g.Tries < 0, g.Tries > 2, g.Addr < 1, g.Addr > 127, g.Total < 0, g.Total > 512:
		return false
	case g.Device.Serial < 0, g.Device.Serial > 255, g.Config.Value < 0, g.Config.Value > 255:
		return false
	}
	return true
}

func nextByWords(g api.Greeting) (string, api.Errno) {
	if !rightByWords(g) {
		return "", api.ErrArg
	}
	switch g.Step {
	case 1:
		return "\x80\x06\x00\x01\x00\x00\x08\x00", api.OK
	case 2:
		return "\x00\x05" + string([]byte{byte(g.Addr)}) + "\x00\x00\x00\x00\x00", api.OK
	case 3:
		return "\x80\x06\x00\x01\x00\x00\x12\x00", api.OK
	case 4:
		return "\x80\x06\x00\x02\x00\x00\x09\x00", api.OK
	case 5:
		return "\x80\x06\x00\x02\x00\x00" + string([]byte{byte(g.Total % 256), byte(g.Total / 256)}), api.OK
	case 6:
		number := 768 + g.Device.Serial
		return "\x80\x06" + string([]byte{byte(number % 256), byte(number / 256)}) + "\x00\x00\xff\x00", api.OK
	case 7:
		return "\x00\x09" + string([]byte{byte(g.Config.Value)}) + "\x00\x00\x00\x00\x00", api.OK
	}
	return "", api.ErrNone
}

// keptByWords is the greeting with what is kept, and whether the bytes are those of a good answer.
func keptByWords(g api.Greeting, s string) (api.Greeting, bool) {
	switch g.Step {
	case 1:
		if len(s) == 8 && strings.HasPrefix(s, "\x12\x01") && strings.ContainsAny(s[7:], "\x08\x10\x20\x40") {
			g.Max0 = int(s[7])
			return g, true
		}
	case 2, 7:
		return g, len(s) == 0
	case 3:
		d, code := desc.ReadDevice(s)
		if code == api.OK && d.Max0 == g.Max0 && d.Configs == 1 {
			g.Device = d
			return g, true
		}
	case 4:
		if len(s) == 9 && strings.HasPrefix(s, "\x09\x02") {
			g.Total = int(s[2]) + 256*int(s[3])
			return g, g.Total >= 9 && g.Total <= 512
		}
	case 5:
		c, code := desc.ReadConfig(s)
		if code == api.OK && len(s) == g.Total {
			g.Config = c
			return g, true
		}
	case 6:
		text, code := desc.ReadText(s)
		if code == api.OK {
			g.Serial = text
			return g, true
		}
	}
	return g, false
}

func tellByWords(g api.Greeting, answer string, code api.Errno) (api.Greeting, api.Errno) {
	if !rightByWords(g) {
		return g, api.ErrArg
	}
	if g.Step > 7 {
		return g, api.ErrNone
	}
	kept, good := keptByWords(g, answer)
	if good && code == api.OK {
		kept.Tries = 0
		kept.Step = map[int]int{1: 2, 2: 3, 3: 4, 4: 5, 5: 6, 6: 7, 7: 8}[g.Step]
		if g.Step == 5 && g.Device.Serial == 0 {
			kept.Step = 7
		}
		return kept, api.OK
	}
	if g.Tries < 2 {
		g.Tries++
		return g, api.OK
	}
	g.Tries, g.Step, g.Err = 0, 9, code
	if code == api.OK {
		g.Err = api.ErrForm
	}
	return g, api.OK
}

// metByWords is what comes of fates that may be, told without an ask: a device that can be made by s does what it hears.
func metByWords(s api.Sheet, addr int, row []int) (api.Greeting, api.Gadget, int) {
	steps := []int{1, 2, 3, 4, 5, 6, 7}
	if s.Device.Serial == 0 {
		steps = []int{1, 2, 3, 4, 5, 7}
	}
	g, d, at := api.Greeting{Step: 1, Addr: addr}, api.Gadget{}, 0
	told := map[int]api.Errno{api.FLost: 9, api.FDeaf: 9, api.FBusy: 10, api.FStall: 8}
	for used, fate := range row {
		if at == len(steps) || g.Step == 9 {
			return g, d, used
		}
		step := steps[at]
		if fate == api.FGood || fate == api.FDeaf {
			switch step {
			case 2:
				d = api.Gadget{State: 1, Addr: addr}
			case 7:
				d = api.Gadget{State: 2, Addr: addr}
			}
		}
		if fate != api.FGood {
			g.Tries++
			if g.Tries == 3 {
				g.Tries, g.Step, g.Err = 0, 9, told[fate]
			}
			continue
		}
		switch step {
		case 1:
			g.Max0 = s.Device.Max0
		case 3:
			g.Device = s.Device
		case 4:
			text, _ := desc.WriteConfig(s.Config)
			g.Total = len(text)
		case 5:
			g.Config = s.Config
		case 6:
			g.Serial = string([]rune(s.Texts[s.Device.Serial-1]))
		}
		at, g.Tries = at+1, 0
		g.Step = append(steps, 8)[at]
	}
	return g, d, len(row)
}

// The tests.

func next(t *testing.T, g api.Greeting) {
	t.Helper()
	want, code := nextByWords(g)
	if got, e := Next(g); got != want || e != code {
		t.Errorf("Next(%+v): %x %d, not %x %d", g, got, e, want, code)
	}
}

// tell is what Tell answers, held against the chapter.
func tell(t *testing.T, g api.Greeting, answer string, code api.Errno) api.Greeting {
	t.Helper()
	want, e := tellByWords(g, answer, code)
	got, told := Tell(g, answer, code)
	if !same(got, want) || told != e {
		t.Fatalf("Tell(%+v, %q, %d): %+v %d, not %+v %d", g, answer, code, got, told, want, e)
	}
	return got
}

func meet(t *testing.T, s api.Sheet, addr int, row []int) {
	t.Helper()
	g, d, used, code := Meet(s, addr, row)
	wantG, wantD, wantUsed := metByWords(s, addr, row)
	if !same(g, wantG) || d != wantD || used != wantUsed || code != api.OK {
		t.Fatalf("Meet(%+v, %d, %v): %+v %+v %d %d, not %+v %+v %d", s, addr, row, g, d, used, code, wantG, wantD, wantUsed)
	}
}

func notMet(t *testing.T, s api.Sheet, addr int, row []int, want api.Errno) {
	t.Helper()
	g, d, used, code := Meet(s, addr, row)
	if !reflect.DeepEqual(g, api.Greeting{}) || d != (api.Gadget{}) || used != 0 || code != want {
		t.Errorf("Meet(%+v, %d, %d fates): %+v %+v %d %d, not %d alone", s, addr, len(row), g, d, used, code, want)
	}
}

// P19.1

func TestNew(t *testing.T) {
	numbers := slices.Clone(far)
	for n := -300; n < 600; n++ {
		numbers = append(numbers, n)
	}
	for _, n := range numbers {
		want, code := api.Greeting{Step: 1, Addr: n}, api.OK
		if n < 1 || n > 127 {
			want, code = api.Greeting{}, api.ErrArg
		}
		if g, e := New(n); !reflect.DeepEqual(g, want) || e != code {
			t.Errorf("New(%d): %+v %d", n, g, e)
		}
	}
}

// rule is a number of a greeting that has bounds.
type rule struct {
	of          func(g *api.Greeting) *int
	least, most int
}

func rules() []rule {
	return []rule{
		{func(g *api.Greeting) *int { return &g.Step }, 1, 9},
		{func(g *api.Greeting) *int { return &g.Tries }, 0, 2},
		{func(g *api.Greeting) *int { return &g.Addr }, 1, 127},
		{func(g *api.Greeting) *int { return &g.Total }, 0, 512},
		{func(g *api.Greeting) *int { return &g.Device.Serial }, 0, 255},
		{func(g *api.Greeting) *int { return &g.Config.Value }, 0, 255},
	}
}

func TestRight(t *testing.T) {
	numbers := slices.Clone(far)
	for n := -20; n < 600; n++ {
		numbers = append(numbers, n)
	}
	for _, r := range rules() {
		for _, n := range numbers {
			for step := 1; step <= 9; step++ {
				g := at(step, 1, rich())
				*r.of(&g) = n
				wrong := n < r.least || n > r.most
				if _, code := Next(g); (code == api.ErrArg) != wrong {
					t.Fatalf("Next(%+v): %d", g, code)
				}
				next(t, g)
				tell(t, g, "", api.OK)
				tell(t, g, "", api.ErrBus)
			}
		}
	}
}

// Two numbers that are out of their bounds are not right again.
func TestRightTwice(t *testing.T) {
	list := rules()
	for i, a := range list {
		for _, b := range list[i+1:] {
			for _, x := range []int{a.least - 1, a.most + 1} {
				for _, y := range []int{b.least - 1, b.most + 1} {
					g := at(3, 1, rich())
					*a.of(&g), *b.of(&g) = x, y
					next(t, g)
					tell(t, g, "", api.OK)
				}
			}
		}
	}
}

// The other numbers of a greeting have no bounds.
func TestRightWhateverElse(t *testing.T) {
	for step := 1; step <= 9; step++ {
		for _, n := range append([]int{0, 1, 255, 256, 65535}, far...) {
			g := at(step, 2, rich())
			g.Max0, g.Err, g.Serial = n, api.Errno(n), strings.Repeat("\xff", 500)
			g.Device = api.Device{Usb: n, Class: n, Sub: n, Proto: n, Max0: n, Vendor: n, Product: n, Release: n, Maker: n, Name: n, Serial: 7, Configs: n}
			f := api.Face{Class: n, Sub: n, Proto: n, Name: n, Extra: []string{"", "x"}, Ends: []api.End{{Addr: n, Kind: n, Max: n, Interval: n}}}
			g.Config = api.Config{Value: 7, Name: n, Attr: n, Power: n, Faces: []api.Face{f, f, f, f, f, f}}
			if _, code := Next(g); code == api.ErrArg {
				t.Errorf("Next(%+v): %d", g, code)
			}
			next(t, g)
			for _, answer := range []string{"", "x", "\x12\x01abcde\x08"} {
				tell(t, g, answer, api.OK)
				tell(t, g, answer, api.ErrTime)
			}
		}
	}
}

// P19.2

func TestNext(t *testing.T) {
	for step := 1; step <= 9; step++ {
		for tries := range 3 {
			for n := range 513 {
				g := at(step, tries, rich())
				g.Total, g.Addr, g.Device.Serial, g.Config.Value = n, 1+n%127, n%256, n%256
				next(t, g)
				g.Total, g.Addr, g.Device.Serial, g.Config.Value = 512-n, 1, 0, 255
				next(t, g)
			}
		}
	}
}

func TestNextAsItStands(t *testing.T) {
	g := api.Greeting{Addr: 127, Total: 300, Device: api.Device{Serial: 255}, Config: api.Config{Value: 254}}
	for i, want := range []string{
		"\x80\x06\x00\x01\x00\x00\x08\x00",
		"\x00\x05\x7f\x00\x00\x00\x00\x00",
		"\x80\x06\x00\x01\x00\x00\x12\x00",
		"\x80\x06\x00\x02\x00\x00\x09\x00",
		"\x80\x06\x00\x02\x00\x00\x2c\x01",
		"\x80\x06\xff\x03\x00\x00\xff\x00",
		"\x00\x09\xfe\x00\x00\x00\x00\x00",
	} {
		g.Step = i + 1
		if got, code := Next(g); got != want || code != api.OK {
			t.Errorf("step %d: %x %d, not %x", g.Step, got, code, want)
		}
	}
	for _, g.Step = range []int{8, 9} {
		if got, code := Next(g); got != "" || code != api.ErrNone {
			t.Errorf("step %d: %x %d", g.Step, got, code)
		}
	}
}

// P19.3

// goods are good answers to what is asked of a device of that sheet, from step 1 on.
func goods(s api.Sheet) []string {
	d, _ := desc.WriteDevice(s.Device)
	c, _ := desc.WriteConfig(s.Config)
	text := "\x02\x03"
	if s.Device.Serial > 0 {
		text, _ = desc.WriteText(s.Texts[s.Device.Serial-1])
	}
	return []string{d[:8], "", d, c[:9], c, text, ""}
}

func TestTellGood(t *testing.T) {
	for _, s := range []api.Sheet{plain(), rich(), longest()} {
		for tries := range 3 {
			for i, answer := range goods(s) {
				g := at(i+1, tries, s)
				got := tell(t, g, answer, api.OK)
				want := i + 2
				if s.Device.Serial == 0 && i+1 == 5 {
					want = 7
				}
				if got.Step != want || got.Tries != 0 {
					t.Errorf("%+v: step %d, tries %d", g, got.Step, got.Tries)
				}
			}
		}
	}
}

// What is kept comes from the answer, not from what the greeting had.
func TestTellKeeps(t *testing.T) {
	s, answers := longest(), goods(longest())
	for i, answer := range answers {
		g := at(i+1, 0, rich())
		g.Total, g.Err = len(answers[4]), api.ErrGone
		if i+1 == 6 {
			g.Device = s.Device
		}
		got := tell(t, g, answer, api.OK)
		want := g
		want.Step++
		switch g.Step {
		case 1:
			want.Max0 = 64
		case 3:
			want.Device = s.Device
		case 4:
			want.Total = 9 + 4*(9+2*32+4*7)
		case 5:
			want.Config = s.Config
		case 6:
			want.Serial = strings.Repeat("\U0001d11e", 63)
		}
		if !same(got, want) {
			t.Errorf("%+v, not %+v", got, want)
		}
	}
}

// Of each good answer: all beginnings, longer ones, and each byte another one.
func TestTellSlips(t *testing.T) {
	for _, s := range []api.Sheet{plain(), rich()} {
		for i, answer := range goods(s) {
			for tries := range 3 {
				g := at(i+1, tries, s)
				for size := range answer {
					tell(t, g, answer[:size], api.OK)
				}
				for _, more := range []string{"\x00", "x", "\x02\x06", answer, strings.Repeat("a", 1000)} {
					tell(t, g, answer+more, api.OK)
					tell(t, g, more+answer, api.OK)
				}
				slips(t, g, answer)
			}
		}
	}
}

func slips(t *testing.T, g api.Greeting, answer string) {
	t.Helper()
	for at := range answer {
		for b := range 256 {
			tell(t, g, answer[:at]+string([]byte{byte(b)})+answer[at+1:], api.OK)
		}
	}
}

func TestTellMax0(t *testing.T) {
	for b := range 256 {
		g := tell(t, at(1, 1, api.Sheet{}), "\x12\x01"+"\xff\x00\x7f\x80\x0a"+string([]byte{byte(b)}), api.OK)
		if good := b == 8 || b == 16 || b == 32 || b == 64; good != (g.Step == 2 && g.Max0 == b) {
			t.Errorf("Max0 %d: %+v", b, g)
		}
		for _, max0 := range append([]int{0, 8, 16, 32, 64}, far...) {
			s := rich()
			s.Device.Max0 = 8 << (b % 4)
			g := at(3, 0, s)
			g.Max0 = max0
			got := tell(t, g, goods(s)[2], api.OK)
			if (got.Step == 4) != (max0 == s.Device.Max0) {
				t.Errorf("%+v: %+v", g, got)
			}
		}
	}
}

func TestTellConfigs(t *testing.T) {
	for n := 1; n < 256; n++ {
		s := rich()
		s.Device.Configs = n
		g := tell(t, at(3, 0, rich()), goods(s)[2], api.OK)
		if (g.Step == 4) != (n == 1) {
			t.Errorf("%d Configs: %+v", n, g)
		}
	}
}

func TestTellTotal(t *testing.T) {
	for n := range 65536 {
		g := at(4, 0, rich())
		got := tell(t, g, "\x09\x02"+string([]byte{byte(n % 256), byte(n / 256)})+"\x00\xff\x80\x01a", api.OK)
		if good := n >= 9 && n <= 512; good != (got.Step == 5 && got.Total == n) {
			t.Errorf("Total %d: %+v", n, got)
		}
	}
}

// An answer is the configuration only if it has as many bytes as were told.
func TestTellConfigOfAnotherSize(t *testing.T) {
	for _, s := range []api.Sheet{plain(), rich(), longest()} {
		answer := goods(s)[4]
		for n := range 513 {
			g := at(5, 0, s)
			g.Total = n
			if got := tell(t, g, answer, api.OK); (got.Step > 5) != (n == len(answer)) {
				t.Errorf("Total %d, %d bytes: %+v", n, len(answer), got)
			}
			tell(t, g, answer[:min(n, len(answer))], api.OK)
			tell(t, g, strings.Repeat("\x00", n), api.OK)
		}
	}
}

// Step 6 is left out only behind step 5, and only if there is no Serial.
func TestTellWithoutSerial(t *testing.T) {
	for serial := range 256 {
		for i, answer := range goods(rich()) {
			g := at(i+1, 0, rich())
			g.Device.Serial = serial
			got := tell(t, g, answer, api.OK)
			want := i + 2
			if i+1 == 5 && serial == 0 {
				want = 7
			}
			if got.Step != want {
				t.Errorf("Serial %d, step %d: %+v", serial, i+1, got)
			}
		}
	}
	// At step 6 it is asked all the same, and the languages read as a text.
	g := at(6, 2, plain())
	next(t, g)
	if got := tell(t, g, "\x04\x03\x09\x04", api.OK); got.Serial != "\u0409" || got.Step != 7 {
		t.Errorf("%+v", got)
	}
}

func TestTellTexts(t *testing.T) {
	for answer, want := range map[string]string{
		"\x02\x03":                         "",
		"\x04\x03A\x00":                    "A",
		"\x06\x03\x34\xd8\x1e\xdd":         "\U0001d11e",
		"\x06\x03\x1e\xdd\x34\xd8":         "\ufffd\ufffd",
		"\xfe" + "\x03" + units("a", 126):  strings.Repeat("a", 126),
		"\xfc" + "\x03" + units("\n", 125): strings.Repeat("\n", 125),
	} {
		g := tell(t, at(6, 2, rich()), answer, api.OK)
		if g.Step != 7 || g.Serial != want {
			t.Errorf("%q: %+v", answer, g)
		}
	}
	for _, answer := range []string{"", "\x02", "\x03\x03", "\x02\x04", "\x03\x03a", "\x04\x03a", "\x05\x03a\x00b", "\x00\x03" + units("a", 127)} {
		g := tell(t, at(6, 2, rich()), answer, api.OK)
		if g.Step != 9 || g.Serial != "old" || g.Err != api.ErrForm {
			t.Errorf("%q: %+v", answer, g)
		}
	}
}

// units is a text of so many units that are all the same.
func units(sign string, count int) string { return strings.Repeat(sign+"\x00", count) }

// With a code even the bytes of a good answer are none.
func TestTellCodes(t *testing.T) {
	for _, s := range []api.Sheet{plain(), rich()} {
		for i, answer := range goods(s) {
			for _, code := range codes {
				for _, said := range []string{answer, answer + "x", "", "x"} {
					tellThrice(t, at(i+1, 0, s), said, code)
				}
			}
		}
	}
}

func tellThrice(t *testing.T, g api.Greeting, said string, code api.Errno) {
	t.Helper()
	step := g.Step
	g.Err = api.ErrTwice
	for tries := range 2 {
		next := tell(t, g, said, code)
		if next.Step != step {
			return
		}
		if next.Tries != tries+1 || next.Err != api.ErrTwice {
			t.Fatalf("step %d, %q %d: %+v", step, said, code, next)
		}
		g = next
	}
	want := code
	if code == api.OK {
		want = api.ErrForm
	}
	if g = tell(t, g, said, code); g.Step != 9 || g.Tries != 0 || g.Err != want {
		t.Fatalf("step %d, %q %d: %+v", step, said, code, g)
	}
}

// Errors of another step don't count: a good answer sets Tries back.
func TestTellTriesBegin(t *testing.T) {
	g, _ := New(9)
	for i, answer := range goods(rich()) {
		for range 2 {
			g = tell(t, g, "\x01", api.OK)
		}
		if g.Step != i+1 || g.Tries != 2 {
			t.Fatalf("step %d: %+v", i+1, g)
		}
		g = tell(t, g, answer, api.OK)
	}
	want := api.Greeting{Step: 8, Addr: 9, Max0: 64, Total: len(goods(rich())[4]), Device: rich().Device, Config: rich().Config, Serial: "A1\u20ac"}
	if !same(g, want) {
		t.Errorf("%+v, not %+v", g, want)
	}
}

// The code that is told in the end is the last one, not one ahead of it.
func TestTellLastCode(t *testing.T) {
	for _, first := range codes {
		for _, last := range codes[1:] {
			g, _ := New(9)
			g = tell(t, g, "", first)
			g = tell(t, g, "", api.ErrStall)
			g = tell(t, g, "", last)
			if g.Err != last || g.Step != 9 {
				t.Errorf("%d, then %d: %+v", first, last, g)
			}
		}
	}
}

func TestTellEnded(t *testing.T) {
	for _, step := range []int{8, 9} {
		for tries := range 3 {
			for _, code := range codes {
				for _, answer := range append(goods(rich()), "x") {
					g := at(step, tries, rich())
					g.Err = api.ErrShort
					if got, e := Tell(g, answer, code); e != api.ErrNone || !same(got, g) {
						t.Errorf("Tell(%+v): %+v %d", g, got, e)
					}
				}
			}
		}
	}
}

func TestTellNotRight(t *testing.T) {
	for _, r := range rules() {
		for _, n := range append([]int{r.least - 1, r.most + 1}, far...) {
			for _, code := range codes {
				g := at(2, 2, rich())
				*r.of(&g) = n
				if got, e := Tell(g, "", code); e != api.ErrArg || !same(got, g) {
					t.Errorf("Tell(%+v): %+v %d", g, got, e)
				}
			}
		}
	}
}

// Whatever is told, a greeting that is right stays so, and ends by 21 answers.
func TestTellWhatever(t *testing.T) {
	d := dice{3}
	var ended [10]int
	for round := range 20000 {
		s := []api.Sheet{plain(), rich(), longest()}[round%3]
		answers := goods(s)
		g, _ := New(1 + d.below(127))
		told := 0
		for ; g.Step < 8; told++ {
			answer, code := answers[g.Step-1], api.OK
			switch d.below(8) {
			case 0:
				code = codes[d.below(len(codes))]
			case 1:
				answer = d.text(d.below(20))
			case 2:
				answer = answers[d.below(7)]
			}
			g = tell(t, g, answer, code)
			next(t, g)
		}
		if told > 21 {
			t.Errorf("%d answers: %+v", told, g)
		}
		ended[g.Step]++
	}
	if ended[8] < 1000 || ended[9] < 1000 {
		t.Errorf("ended %v", ended)
	}
}

// P19.4

// rows are all rows of so many fates.
func rows(count int) [][]int {
	list := [][]int{nil}
	for range count {
		var longer [][]int
		for _, row := range list {
			for _, fate := range fates {
				longer = append(longer, append(slices.Clone(row), fate))
			}
		}
		list = longer
	}
	return list
}

func TestMeetAllGood(t *testing.T) {
	for _, s := range []api.Sheet{plain(), rich(), longest()} {
		steps := 7
		if s.Device.Serial == 0 {
			steps = 6
		}
		for count := range 20 {
			meet(t, s, 5, slices.Repeat([]int{api.FGood}, count))
			g, d, used, code := Meet(s, 127, slices.Repeat([]int{api.FGood}, count))
			if (g.Step == 8) != (count >= steps) || (d.State == 2) != (count >= steps) || used != min(count, steps) || code != api.OK {
				t.Errorf("%d fates: %+v %+v %d %d", count, g, d, used, code)
			}
		}
	}
}

func TestMeetAllRows(t *testing.T) {
	for _, s := range []api.Sheet{plain(), rich()} {
		for count := range 8 {
			for _, row := range rows(count) {
				meet(t, s, 9, row)
			}
		}
	}
}

// Behind any step, and any row of up to three fates there, what follows is good.
func TestMeetEachStep(t *testing.T) {
	for _, s := range []api.Sheet{plain(), rich(), longest()} {
		for step := range 8 {
			for count := range 4 {
				for _, row := range rows(count) {
					all := append(slices.Repeat([]int{api.FGood}, step), row...)
					meet(t, s, 1+step, all)
					meet(t, s, 1+step, append(all, slices.Repeat([]int{api.FGood}, 9)...))
				}
			}
		}
	}
}

func TestMeetThrown(t *testing.T) {
	d := dice{5}
	for round := range 60000 {
		s := []api.Sheet{plain(), rich()}[round%2]
		s.Device.Max0 = 8 << d.below(4)
		s.Device.Serial = d.below(len(s.Texts) + 1)
		s.Config.Value = 1 + d.below(255)
		row := make([]int, d.below(30))
		for i := range row {
			row[i] = api.FGood
			if d.below(3) == 0 {
				row[i] = fates[d.below(5)]
			}
		}
		meet(t, s, 1+d.below(127), row)
	}
}

func TestMeetSerials(t *testing.T) {
	for count := range 9 {
		s := rich()
		s.Texts = []string{"a", "", "b\xffc", strings.Repeat("d", 126), "\u20ac", "\U0001d11e", "\xed\xa0\x80", "\x00"}
		s.Device.Serial = count
		meet(t, s, 5, slices.Repeat([]int{api.FGood}, 7))
	}
}

func TestMeetErrs(t *testing.T) {
	for _, c := range []struct {
		row  []int
		step int
		code api.Errno
		used int
		d    api.Gadget
	}{
		{nil, 1, api.OK, 0, api.Gadget{}},
		{[]int{api.FLost, api.FLost}, 1, api.OK, 2, api.Gadget{}},
		{[]int{api.FLost, api.FBusy, api.FStall, api.FGood}, 9, api.ErrStall, 3, api.Gadget{}},
		{[]int{api.FStall, api.FLost, api.FBusy, api.FGood}, 9, api.ErrTime, 3, api.Gadget{}},
		{[]int{api.FStall, api.FBusy, api.FLost, api.FGood}, 9, api.ErrBus, 3, api.Gadget{}},
		{[]int{api.FStall, api.FBusy, api.FDeaf, api.FGood}, 9, api.ErrBus, 3, api.Gadget{}},
		{[]int{api.FGood, api.FDeaf, api.FDeaf, api.FDeaf}, 9, api.ErrBus, 4, api.Gadget{State: 1, Addr: 5}},
		{[]int{api.FGood, api.FLost, api.FBusy, api.FStall}, 9, api.ErrStall, 4, api.Gadget{}},
		{[]int{1, 1, 1, 1, 1, api.FDeaf}, 7, api.OK, 6, api.Gadget{State: 2, Addr: 5}},
		{[]int{1, 1, 1, 1, 1, api.FLost}, 7, api.OK, 6, api.Gadget{State: 1, Addr: 5}},
		{[]int{1, 1, 1, 1, 1, api.FDeaf, api.FBusy, api.FBusy, 1}, 9, api.ErrTime, 8, api.Gadget{State: 2, Addr: 5}},
		{[]int{1, 1, 1, 1, 1, api.FDeaf, api.FDeaf, api.FGood, 1}, 8, api.OK, 8, api.Gadget{State: 2, Addr: 5}},
	} {
		g, d, used, code := Meet(plain(), 5, c.row)
		if g.Step != c.step || g.Err != c.code || used != c.used || d != c.d || code != api.OK {
			t.Errorf("%v: %+v %+v %d %d", c.row, g, d, used, code)
		}
	}
}

type spoil struct {
	want api.Errno
	do   func(s *api.Sheet)
}

// spoils are in the order in which they are told.
func spoils() []spoil {
	return []spoil{
		{api.ErrArg, func(s *api.Sheet) { s.Device.Max0 = 9 }},
		{api.ErrForm, func(s *api.Sheet) { s.Device.Configs = 2 }},
		{api.ErrTwice, func(s *api.Sheet) { s.Config.Faces[1].Ends[0] = s.Config.Faces[0].Ends[1] }},
		{api.ErrLarge, func(s *api.Sheet) { s.Texts = make([]string, 9) }},
		{api.ErrLarge, func(s *api.Sheet) { s.Texts[0] = strings.Repeat("a", 127) }},
		{api.ErrNone, func(s *api.Sheet) { s.Device.Serial = 4 }},
	}
}

func TestMeetOrder(t *testing.T) {
	good := []int{api.FGood}
	wrong := [][]int{good, {0}, slices.Repeat(good, 1001), slices.Repeat([]int{6}, 1001)}
	for _, one := range spoils() {
		s := rich()
		one.do(&s)
		if code := gadget.Check(s); code != one.want {
			t.Fatalf("%+v: %d", s, code)
		}
		for _, row := range wrong {
			for _, addr := range append([]int{0, 5, 128}, far...) {
				notMet(t, s, addr, row, one.want)
			}
		}
	}
	for _, row := range wrong {
		for _, addr := range append([]int{0, 128}, far...) {
			notMet(t, rich(), addr, row, api.ErrArg)
		}
	}
	notMet(t, rich(), 5, wrong[1], api.ErrArg)
	notMet(t, rich(), 5, wrong[2], api.ErrLarge)
	notMet(t, rich(), 5, wrong[3], api.ErrLarge)
}

func TestMeetAddr(t *testing.T) {
	for addr := -300; addr < 600; addr++ {
		if addr < 1 || addr > 127 {
			notMet(t, rich(), addr, nil, api.ErrArg)
			continue
		}
		meet(t, rich(), addr, []int{1, 1, 1, 1, 1, 1, 1})
		meet(t, plain(), addr, []int{1, 3})
	}
}

func TestMeetFates(t *testing.T) {
	for _, count := range []int{999, 1000} {
		for _, fate := range fates {
			meet(t, rich(), 5, slices.Repeat([]int{fate}, count))
		}
	}
	for _, count := range []int{1001, 1002, 1 << 16} {
		for _, fate := range fates {
			notMet(t, rich(), 5, slices.Repeat([]int{fate}, count), api.ErrLarge)
		}
	}
	// A fate that is none is told wherever it stands, even if it would never be used.
	for _, n := range append([]int{0, 6, 7, 256, 257}, far...) {
		for _, at := range []int{0, 1, 6, 7, 20, 999} {
			for _, fate := range fates {
				row := slices.Repeat([]int{fate}, 1000)
				row[at] = n
				notMet(t, rich(), 5, row, api.ErrArg)
				notMet(t, rich(), 5, row[:at+1], api.ErrArg)
			}
		}
	}
}

// P2

// roomy is a configuration with lists that have spare room. Two of its Faces have theirs in common.
func roomy() (api.Config, func() []any) {
	extra := append(make([]string, 0, 6), "\x02\x06", "\x03\x07a")
	ends := append(make([]api.End, 0, 6), api.End{Addr: 1}, api.End{Addr: 2, In: true})
	none := make([]string, 0, 5)
	faces := append(make([]api.Face, 0, 7), api.Face{Extra: extra, Ends: ends}, api.Face{Extra: extra, Ends: ends}, api.Face{Extra: none})
	return api.Config{Value: 1, Faces: faces}, func() []any {
		return []any{slices.Clone(faces[:7]), slices.Clone(extra[:6]), slices.Clone(ends[:6]), slices.Clone(none[:5])}
	}
}

// fill writes all room of the configuration's lists, spare room included, full of n.
func fill(c api.Config, n int) {
	sign := string([]byte{byte(n)})
	for _, f := range c.Faces {
		for i := range f.Extra[:cap(f.Extra)] {
			f.Extra[:cap(f.Extra)][i] = sign
		}
		for i := range f.Ends[:cap(f.Ends)] {
			f.Ends[:cap(f.Ends)][i] = api.End{Addr: n}
		}
	}
	for i := range c.Faces[:cap(c.Faces)] {
		c.Faces[:cap(c.Faces)][i].Class = n
	}
}

func TestTellIsNewMemory(t *testing.T) {
	for step := range 11 {
		for tries := range 4 {
			for _, answer := range append(goods(rich()), "x") {
				for _, code := range []api.Errno{api.OK, api.ErrBus} {
					c, room := roomy()
					ahead := room()
					g := at(step, tries, rich())
					g.Config = c
					got, _ := Tell(g, answer, code)
					if !reflect.DeepEqual(room(), ahead) {
						t.Fatalf("Tell(%+v, %q, %d): it was changed", g, answer, code)
					}
					fill(got.Config, 99)
					if !reflect.DeepEqual(room(), ahead) {
						t.Fatalf("Tell(%+v, %q, %d): room in common", g, answer, code)
					}
					apart(t, got.Config)
				}
			}
		}
	}
}

// apart looks at whether lists of a configuration have room in common.
func apart(t *testing.T, c api.Config) {
	t.Helper()
	for i, f := range c.Faces {
		fill(api.Config{Faces: []api.Face{f}}, i+1)
	}
	for i, f := range c.Faces {
		for _, e := range f.Ends[:cap(f.Ends)] {
			if e.Addr != i+1 {
				t.Fatalf("Ends in common: %+v", c)
			}
		}
		for _, s := range f.Extra[:cap(f.Extra)] {
			if s[0] != byte(i+1) {
				t.Fatalf("Extra in common: %+v", c)
			}
		}
	}
}

// A list with nothing in it has room, too.
func TestTellNoFacesButRoom(t *testing.T) {
	for step := range 11 {
		faces := make([]api.Face, 0, 4)
		g := at(step, 0, plain())
		g.Config.Faces = faces
		got, _ := Tell(g, "x", api.OK)
		fill(got.Config, 99)
		if !reflect.DeepEqual(faces[:4], make([]api.Face, 4)) {
			t.Errorf("step %d: room in common", step)
		}
	}
}

func TestNextLeavesIt(t *testing.T) {
	for step := range 11 {
		c, room := roomy()
		ahead := room()
		g := at(step, 0, rich())
		g.Config = c
		Next(g)
		if !reflect.DeepEqual(room(), ahead) {
			t.Errorf("step %d: it was changed", step)
		}
	}
}

func TestMeetLeavesItsSheet(t *testing.T) {
	for count := range 10 {
		s := rich()
		s.Config.Faces = append(make([]api.Face, 0, 8), s.Config.Faces...)
		s.Texts = append(make([]string, 0, 8), s.Texts...)
		row := append(make([]int, 0, 20), slices.Repeat([]int{api.FGood}, count)...)
		g, _, _, _ := Meet(s, 5, row)
		fill(g.Config, 99)
		apart(t, g.Config)
		if !reflect.DeepEqual(s, rich()) || !reflect.DeepEqual(row[:20], append(slices.Repeat([]int{api.FGood}, count), make([]int, 20-count)...)) {
			t.Errorf("%d fates: %+v %v", count, s, row[:20])
		}
		if !reflect.DeepEqual(s.Config.Faces[3:8], make([]api.Face, 5)) || !reflect.DeepEqual(s.Texts[3:8], make([]string, 5)) {
			t.Errorf("%d fates: room was changed", count)
		}
	}
}

func TestSameAnswerAgain(t *testing.T) {
	for range 3 {
		meet(t, rich(), 5, []int{1, 2, 1, 3, 1, 4, 1, 5, 1, 1, 1})
		meet(t, plain(), 7, []int{2, 2, 2})
		tell(t, at(5, 2, rich()), goods(rich())[4], api.OK)
		tell(t, at(5, 2, rich()), "", api.ErrBus)
		next(t, at(6, 0, rich()))
	}
}
