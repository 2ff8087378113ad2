package utf

import (
	"strings"
	"sync"
	"testing"

	"plugtree/api"
)

const lost = "\xfd\xff" // the unit 65533

// encoded is a rune in UTF-8, by a way of its own, and nothing for what is no rune.
func encoded(r int) string {
	switch {
	case r < 0 || r > 1114111 || r >= 55296 && r <= 57343:
		return ""
	case r < 128:
		return string([]byte{byte(r)})
	case r < 2048:
		return string([]byte{byte(192 + r/64), byte(128 + r%64)})
	case r < 65536:
		return string([]byte{byte(224 + r/4096), byte(128 + r/64%64), byte(128 + r%64)})
	}
	return string([]byte{byte(240 + r/262144), byte(128 + r/4096%64), byte(128 + r/64%64), byte(128 + r%64)})
}

func unit(n int) string { return string([]byte{byte(n % 256), byte(n / 256)}) }

// units are those of a rune, by a way of its own.
func units(r int) string {
	if r < 65536 {
		return unit(r)
	}
	return unit(55296+(r-65536)/1024) + unit(56320+(r-65536)%1024)
}

// book has the units of each rune, by its bytes in UTF-8.
var book = sync.OnceValue(func() map[string]string {
	all := make(map[string]string)
	for r := range 1114112 {
		if s := encoded(r); s != "" {
			all[s] = units(r)
		}
	}
	return all
})

// looked is what Wide has to make of s: what stands in the book, and each other byte as 65533.
func looked(all map[string]string, s string) string {
	wide := ""
next:
	for s != "" {
		for size := 1; size <= 4 && size <= len(s); size++ {
			if one, ok := all[s[:size]]; ok {
				wide, s = wide+one, s[size:]
				continue next
			}
		}
		wide, s = wide+lost, s[1:]
	}
	return wide
}

func widened(t *testing.T, s, want string) {
	t.Helper()
	if got, code := Wide(s); got != want || code != api.OK {
		t.Errorf("Wide(%x): %x %d, not %x", s, got, code, want)
	}
}

func notWide(t *testing.T, s string) {
	t.Helper()
	if got, code := Wide(s); got != "" || code != api.ErrLarge {
		t.Errorf("Wide of %d bytes: %x %d, not ErrLarge", len(s), got, code)
	}
}

func narrowed(t *testing.T, wide, want string) {
	t.Helper()
	if got, code := Narrow(wide); got != want || code != api.OK {
		t.Errorf("Narrow(%x): %x %d, not %x", wide, got, code, want)
	}
}

func notNarrow(t *testing.T, wide string, want api.Errno) {
	t.Helper()
	if got, code := Narrow(wide); got != "" || code != want {
		t.Errorf("Narrow of %d bytes: %x %d, not %d", len(wide), got, code, want)
	}
}

// P5.1 and P5.2

func TestKnownTexts(t *testing.T) {
	for s, wide := range map[string]string{
		"":                    "",
		"\x00":                "\x00\x00",
		"hub":                 "h\x00u\x00b\x00",
		"\u00e9":              "\xe9\x00",
		"\u20ac":              "\xac\x20",
		"\ud7ff\ue000":        "\xff\xd7\x00\xe0",
		"\ufeff\ufffd\uffff":  "\xff\xfe\xfd\xff\xff\xff",
		"\U00010000":          "\x00\xd8\x00\xdc",
		"\U0001d11e":          "\x34\xd8\x1e\xdd",
		"\U0010ffff":          "\xff\xdb\xff\xdf",
		"a\U0001d11eb\u20acc": "a\x00\x34\xd8\x1e\xddb\x00\xac\x20c\x00",
	} {
		widened(t, s, wide)
		narrowed(t, wide, s)
	}
}

func TestEachRune(t *testing.T) {
	for r := range 1114112 {
		s := encoded(r)
		if s == "" {
			continue
		}
		widened(t, s, units(r))
		narrowed(t, units(r), s)
	}
}

// P5.1

func TestWideOfEachByte(t *testing.T) {
	all := book()
	for a := range 256 {
		one := string([]byte{byte(a)})
		widened(t, one, looked(all, one))
		for b := range 256 {
			two := one + string([]byte{byte(b)})
			widened(t, two, looked(all, two))
		}
	}
}

// The bytes are those at which UTF-8 changes its mind.
func TestWideOfEdges(t *testing.T) {
	all := book()
	edges := []byte{0, 'a', 0x7f, 0x80, 0x81, 0x8f, 0x90, 0x9f, 0xa0, 0xbf, 0xc0, 0xc1, 0xc2, 0xdf, 0xe0, 0xe1, 0xec, 0xed, 0xee, 0xef, 0xf0, 0xf1, 0xf3, 0xf4, 0xf5, 0xf8, 0xfe, 0xff}
	for _, a := range edges {
		for _, b := range edges {
			for _, c := range edges {
				for _, d := range edges {
					s := string([]byte{a, b, c, d})
					widened(t, s[:3], looked(all, s[:3]))
					widened(t, s, looked(all, s))
				}
			}
		}
	}
}

func TestWideOfWrongForms(t *testing.T) {
	for _, s := range []string{
		"\xc0\x80", "\xc1\xbf", // not the shortest form
		"\xe0\x80\x80", "\xe0\x9f\xbf",
		"\xf0\x80\x80\x80", "\xf0\x8f\xbf\xbf",
		"\xed\xa0\x80", "\xed\xaf\xbf", "\xed\xb0\x80", "\xed\xbf\xbf", // halves of a pair
		"\xed\xa0\xb4\xed\xb4\x9e",
		"\xf4\x90\x80\x80", "\xf7\xbf\xbf\xbf", // above the greatest rune
		"\xf8\x88\x80\x80\x80", "\xfc\x84\x80\x80\x80\x80",
		"\xe2\x82", "\xf0\x9d\x84", // cut off
		"\x80", "\xbf\xbf", "\xff\xfe",
	} {
		each := strings.Repeat(lost, len(s))
		widened(t, s, each)
		widened(t, "a"+s+"\u20ac", "a\x00"+each+"\xac\x20")
	}
	widened(t, "\xe2\xe2\x82\xac", lost+"\xac\x20")
	widened(t, "\xf0\x9d\x84\U0001d11e\x9e", lost+lost+lost+"\x34\xd8\x1e\xdd"+lost)
}

func TestWideLimit(t *testing.T) {
	for _, one := range []struct{ s, wide string }{
		{"a", "a\x00"}, {"\x00", "\x00\x00"}, {"\u00e9", "\xe9\x00"}, {"\u20ac", "\xac\x20"}, {"\xff", lost}, {"\x80", lost},
	} {
		for count := range 127 {
			widened(t, strings.Repeat(one.s, count), strings.Repeat(one.wide, count))
		}
		for _, count := range []int{127, 128, 252, 253, 1 << 20} {
			notWide(t, strings.Repeat(one.s, count))
		}
	}
}

func TestWideLimitOfPairs(t *testing.T) {
	high, pair := "\U0001d11e", "\x34\xd8\x1e\xdd"
	for count := range 64 {
		widened(t, strings.Repeat(high, count), strings.Repeat(pair, count))
	}
	for _, count := range []int{64, 65, 126, 127, 1 << 18} {
		notWide(t, strings.Repeat(high, count))
	}
	for count := range 63 {
		rest := 126 - 2*count
		fit, wide := strings.Repeat(high, count), strings.Repeat(pair, count)
		widened(t, fit+strings.Repeat("a", rest), wide+strings.Repeat("a\x00", rest))
		widened(t, strings.Repeat("a", rest)+fit, strings.Repeat("a\x00", rest)+wide)
		notWide(t, fit+strings.Repeat("a", rest+1))
		notWide(t, strings.Repeat("a", rest-1)+fit+high)
	}
}

// P5.2

// told is what Narrow has to make of these units, by a way of its own.
func told(list []int) string {
	s := ""
	for at := 0; at < len(list); at++ {
		r := list[at]
		if r/1024 == 54 && at+1 < len(list) && list[at+1]/1024 == 55 {
			r = 65536 + r%1024*1024 + list[at+1]%1024
			at++
		}
		if one := encoded(r); one != "" {
			s += one
		} else {
			s += "\xef\xbf\xbd"
		}
	}
	return s
}

func toldAs(t *testing.T, list ...int) {
	t.Helper()
	wide := ""
	for _, n := range list {
		wide += unit(n)
	}
	narrowed(t, wide, told(list))
}

func TestNarrowOfEachUnit(t *testing.T) {
	for n := range 65536 {
		toldAs(t, n)
		toldAs(t, n, 'a')
		toldAs(t, n, 55296)
		toldAs(t, n, 56320)
		toldAs(t, 55348, n)
		toldAs(t, 56606, n)
	}
}

func TestNarrowOfEdges(t *testing.T) {
	edges := []int{0, 'a', 127, 128, 255, 256, 2047, 2048, 55295, 55296, 55297, 56319, 56320, 56321, 57343, 57344, 65279, 65533, 65535}
	for _, a := range edges {
		for _, b := range edges {
			for _, c := range edges {
				toldAs(t, a, b, c)
				for _, d := range edges {
					toldAs(t, a, b, c, d)
				}
			}
		}
	}
}

func TestNarrowOfHalves(t *testing.T) {
	first, second, mark := "\x34\xd8", "\x1e\xdd", "\ufffd"
	for wide, s := range map[string]string{
		first:                            mark,
		second:                           mark,
		first + first:                    mark + mark,
		second + first:                   mark + mark,
		second + second:                  mark + mark,
		first + first + second:           mark + "\U0001d11e",
		first + second + second:          "\U0001d11e" + mark,
		first + second + first:           "\U0001d11e" + mark,
		first + "a\x00" + second:         mark + "a" + mark,
		second + first + second:          mark + "\U0001d11e",
		first + second + first + second:  "\U0001d11e\U0001d11e",
		first + "\xff\xdf" + "\xfd\xff":  "\U0001d3ff" + mark,
		"\xff\xdb" + second + "\x00\xe0": "\U0010fd1e\ue000",
	} {
		narrowed(t, wide, s)
	}
}

func TestNarrowSizes(t *testing.T) {
	for size := range 600 {
		wide := strings.Repeat("a\x00", size/2+1)[:size]
		switch {
		case size%2 == 1:
			notNarrow(t, wide, api.ErrForm)
		case size > 252:
			notNarrow(t, wide, api.ErrLarge)
		default:
			narrowed(t, wide, strings.Repeat("a", size/2))
		}
	}
	notNarrow(t, strings.Repeat("\xd8", 1<<20), api.ErrLarge)
	notNarrow(t, strings.Repeat("\xd8", 1<<20+1), api.ErrForm)
}

// It is units that are counted, not runes.
func TestNarrowLimitOfPairs(t *testing.T) {
	pair := "\x34\xd8\x1e\xdd"
	narrowed(t, strings.Repeat(pair, 63), strings.Repeat("\U0001d11e", 63))
	notNarrow(t, strings.Repeat(pair, 64), api.ErrLarge)
	notNarrow(t, strings.Repeat(pair, 63)+"a\x00", api.ErrLarge)
	notNarrow(t, strings.Repeat(pair, 63)+"a", api.ErrForm)
	narrowed(t, "a\x00"+strings.Repeat(pair, 62)+"\x34\xd8", "a"+strings.Repeat("\U0001d11e", 62)+"\ufffd")
}

// P1 and P2

func TestAnyBytes(t *testing.T) {
	all := book()
	n := uint32(5)
	for round := range 20000 {
		text := make([]byte, round%300)
		for i := range text {
			n = n*1664525 + 1013904223
			text[i] = byte(n >> 24)
			if round%3 == 0 {
				text[i] |= 0x80
			}
		}
		s := string(text)
		if want := looked(all, s); len(want) <= 252 {
			widened(t, s, want)
		} else {
			notWide(t, s)
		}
		switch {
		case len(s)%2 == 1:
			notNarrow(t, s, api.ErrForm)
		case len(s) > 252:
			notNarrow(t, s, api.ErrLarge)
		default:
			var list []int
			for i := 0; i < len(s); i += 2 {
				list = append(list, int(s[i])+256*int(s[i+1]))
			}
			narrowed(t, s, told(list))
		}
	}
}

func TestSameAnswerAgain(t *testing.T) {
	first, _ := Wide("a\U0001d11e")
	Wide(strings.Repeat("b", 200))
	Narrow("\x34\xd8")
	Narrow("x")
	widened(t, "a\U0001d11e", first)
	narrowed(t, first, "a\U0001d11e")
}
