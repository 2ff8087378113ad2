package packet

import (
	"math"
	"slices"
	"strconv"
	"strings"
	"testing"

	"plugtree/api"
	"plugtree/crc"
)

var (
	tokens = []int{api.POut, api.PIn, api.PSetup}
	datas  = []int{api.PData0, api.PData1}
	bares  = []int{api.PAck, api.PNak, api.PStall}
	kinds  = []int{1, 2, 3, 5, 9, 10, 11, 13, 14}

	// firsts are the first bytes of these kinds, in their order.
	firsts = []byte{0xe1, 0xd2, 0xc3, 0xa5, 0x69, 0x5a, 0x4b, 0x2d, 0x1e}

	far = []int{-1, -2, -128, -2048, math.MinInt, math.MinInt32, math.MaxInt, math.MaxInt32, 1 << 16, 1 << 32, 1 << 40}
)

// some is a text of this size, with any bytes.
func some(size int) string {
	text := make([]byte, size)
	n := uint32(size)
	for i := range text {
		n = n*1664525 + 1013904223
		text[i] = byte(n >> 24)
	}
	return string(text)
}

func checked(t *testing.T, p api.Packet, want api.Errno) {
	t.Helper()
	if got := Check(p); got != want {
		t.Errorf("Check(%+v): %d, not %d", p, got, want)
	}
	if want == api.OK {
		return
	}
	if s, code := Write(p); s != "" || code != want {
		t.Errorf("Write(%+v): %x %d, not %d", p, s, code, want)
	}
}

func refused(t *testing.T, s string, want api.Errno) {
	t.Helper()
	if p, code := Read(s); p != (api.Packet{}) || code != want {
		t.Errorf("Read(%x): %+v %d, not %d", s, p, code, want)
	}
}

func bothWays(t *testing.T, p api.Packet, s string) {
	t.Helper()
	if got, code := Write(p); got != s || code != api.OK {
		t.Errorf("Write(%+v): %x %d, not %x", p, got, code, s)
	}
	if got, code := Read(s); got != p || code != api.OK {
		t.Errorf("Read(%x): %+v %d, not %+v", s, got, code, p)
	}
}

// P3.1

func TestCheckKinds(t *testing.T) {
	for kind := -300; kind <= 300; kind++ {
		want := api.ErrArg
		if slices.Contains(kinds, kind) {
			want = api.OK
		}
		checked(t, api.Packet{Kind: kind}, want)
	}
	for _, kind := range far {
		checked(t, api.Packet{Kind: kind}, api.ErrArg)
	}
}

func TestCheckTokens(t *testing.T) {
	for _, kind := range tokens {
		for addr := -5; addr <= 140; addr++ {
			for end := -5; end <= 20; end++ {
				want := api.OK
				if addr < 0 || addr > 127 || end < 0 || end > 15 {
					want = api.ErrArg
				}
				checked(t, api.Packet{Kind: kind, Addr: addr, End: end}, want)
			}
		}
		for _, n := range far {
			checked(t, api.Packet{Kind: kind, Addr: n}, api.ErrArg)
			checked(t, api.Packet{Kind: kind, End: n}, api.ErrArg)
		}
	}
}

func TestCheckFrames(t *testing.T) {
	for n := -5; n <= 4100; n++ {
		want := api.OK
		if n < 0 || n > 2047 {
			want = api.ErrArg
		}
		checked(t, api.Packet{Kind: api.PSof, Frame: n}, want)
	}
	for _, n := range far {
		checked(t, api.Packet{Kind: api.PSof, Frame: n}, api.ErrArg)
	}
}

func TestCheckData(t *testing.T) {
	for _, kind := range datas {
		for size := range 200 {
			want := api.OK
			if size > 64 {
				want = api.ErrLarge
			}
			checked(t, api.Packet{Kind: kind, Data: some(size)}, want)
		}
		checked(t, api.Packet{Kind: kind, Data: strings.Repeat("x", 1<<20)}, api.ErrLarge)
	}
}

// A field without a place is wrong, even with a number that would do elsewhere.
func TestCheckPlaces(t *testing.T) {
	for _, kind := range kinds {
		isToken, isData := slices.Contains(tokens, kind), slices.Contains(datas, kind)
		for _, n := range append([]int{1, 5, 15, 127}, far...) {
			if !isToken {
				checked(t, api.Packet{Kind: kind, Addr: n}, api.ErrArg)
				checked(t, api.Packet{Kind: kind, End: n}, api.ErrArg)
			}
			if kind != api.PSof {
				checked(t, api.Packet{Kind: kind, Frame: n}, api.ErrArg)
			}
		}
		if !isData {
			for _, size := range []int{1, 2, 64, 65, 1000} {
				checked(t, api.Packet{Kind: kind, Data: some(size)}, api.ErrArg)
			}
			checked(t, api.Packet{Kind: kind, Data: "\x00"}, api.ErrArg)
		}
	}
}

func TestCheckArgAheadOfLarge(t *testing.T) {
	long := some(65)
	for _, kind := range datas {
		checked(t, api.Packet{Kind: kind, Addr: 1, Data: long}, api.ErrArg)
		checked(t, api.Packet{Kind: kind, End: 1, Data: long}, api.ErrArg)
		checked(t, api.Packet{Kind: kind, Frame: 1, Data: long}, api.ErrArg)
	}
	checked(t, api.Packet{Kind: 4, Data: long}, api.ErrArg)
}

// P3.2 and P3.3

func TestKnownPackets(t *testing.T) {
	for s, p := range map[string]api.Packet{
		"\xd2":                         {Kind: api.PAck},
		"\x5a":                         {Kind: api.PNak},
		"\x1e":                         {Kind: api.PStall},
		"\x2d\x15\xef":                 {Kind: api.PSetup, Addr: 0x15, End: 14},
		"\x2d\x00\x10":                 {Kind: api.PSetup},
		"\xe1\x3a\x3d":                 {Kind: api.POut, Addr: 0x3a, End: 10},
		"\x69\x70\x72":                 {Kind: api.PIn, Addr: 0x70, End: 4},
		"\x69\xff\x47":                 {Kind: api.PIn, Addr: 127, End: 15},
		"\xa5\x01\xe8":                 {Kind: api.PSof, Frame: 1},
		"\xa5\x10\x2f":                 {Kind: api.PSof, Frame: 0x710},
		"\xc3\x00\x00":                 {Kind: api.PData0},
		"\x4b\x00\x00":                 {Kind: api.PData1},
		"\xc3\x00\x01\x02\x03\xef\x7a": {Kind: api.PData0, Data: "\x00\x01\x02\x03"},
		"\x4b\x23\x45\x67\x89\x0e\x1c": {Kind: api.PData1, Data: "\x23\x45\x67\x89"},
		"\x4b123456789\xc8\xb4":        {Kind: api.PData1, Data: "123456789"},
	} {
		bothWays(t, p, s)
	}
}

// written are the two bytes of eleven bits and their sum, by the signs of their bits.
func written(eleven string) string {
	n, _ := strconv.ParseUint(eleven, 2, 16)
	sum, _ := crc.Five(uint16(n))
	five := strconv.FormatInt(int64(32+int(sum)), 2)[1:]
	high, _ := strconv.ParseUint(five+eleven[:3], 2, 8)
	low, _ := strconv.ParseUint(eleven[3:], 2, 8)
	return string([]byte{byte(low), byte(high)})
}

// signs are the lowest bits of n, the highest of them first.
func signs(n, count int) string {
	return strconv.FormatInt(int64(1<<count+n), 2)[1:]
}

func TestAllTokens(t *testing.T) {
	for i, kind := range kinds {
		if !slices.Contains(tokens, kind) {
			continue
		}
		for addr := range 128 {
			for end := range 16 {
				s := string(firsts[i:i+1]) + written(signs(end, 4)+signs(addr, 7))
				bothWays(t, api.Packet{Kind: kind, Addr: addr, End: end}, s)
			}
		}
	}
}

func TestAllFrames(t *testing.T) {
	for n := range 2048 {
		bothWays(t, api.Packet{Kind: api.PSof, Frame: n}, "\xa5"+written(signs(n, 11)))
	}
}

func TestDataOfEachSize(t *testing.T) {
	for i, kind := range kinds {
		if !slices.Contains(datas, kind) {
			continue
		}
		for size := range 65 {
			for _, text := range []string{some(size), strings.Repeat("\x00", size), strings.Repeat("\xff", size)} {
				sum := int(crc.Sixteen(text))
				s := string(firsts[i:i+1]) + text + string([]byte{byte(sum % 256), byte(sum / 256)})
				bothWays(t, api.Packet{Kind: kind, Data: text}, s)
			}
		}
	}
}

// P3.3

func TestReadNothing(t *testing.T) { refused(t, "", api.ErrShort) }

func TestReadFirstByte(t *testing.T) {
	for b := range 256 {
		first := string([]byte{byte(b)})
		at := slices.Index(firsts, byte(b))
		if at < 0 {
			for _, size := range []int{0, 1, 2, 3, 66, 67, 500} {
				refused(t, first+some(size), api.ErrForm)
			}
			continue
		}
		if !slices.Contains(bares, kinds[at]) {
			refused(t, first, api.ErrShort)
			continue
		}
		bothWays(t, api.Packet{Kind: kinds[at]}, first)
	}
}

func TestReadSizes(t *testing.T) {
	for i, kind := range kinds {
		least, most := 2, 2
		switch {
		case slices.Contains(bares, kind):
			least, most = 0, 0
		case slices.Contains(datas, kind):
			most = 66
		}
		for size := range 300 {
			s := string(firsts[i:i+1]) + some(size)
			if size < least {
				refused(t, s, api.ErrShort)
			}
			if size > most {
				refused(t, s, api.ErrForm)
			}
		}
		if size := 1 << 20; size > most {
			refused(t, string(firsts[i:i+1])+some(size), api.ErrForm)
		}
	}
}

// Too many bytes are told even if the sum of all of them fits.
func TestReadDataTooLong(t *testing.T) {
	for size := 65; size < 100; size++ {
		text := some(size)
		refused(t, "\xc3"+text+word(crc.Sixteen(text)), api.ErrForm)
		refused(t, "\x4b"+text+word(crc.Sixteen(text)), api.ErrForm)
	}
	refused(t, "\xe1"+written(signs(5, 11))+"\x00", api.ErrForm)
}

func TestReadSums(t *testing.T) {
	for _, first := range []string{"\xe1", "\x69", "\x2d", "\xa5"} {
		for n := range 65536 {
			rest := string([]byte{byte(n % 256), byte(n / 256)})
			if written(signs(n%2048, 11)) != rest {
				refused(t, first+rest, api.ErrSum)
			}
		}
	}
	for n := 1; n < 65536; n++ {
		rest := string([]byte{byte(n % 256), byte(n / 256)})
		refused(t, "\xc3"+rest, api.ErrSum)
		refused(t, "\x4b"+rest, api.ErrSum)
	}
}

// No bit of a packet can turn over without being seen.
func TestReadEachBit(t *testing.T) {
	for size := range 65 {
		for _, first := range []string{"\xc3", "\x4b"} {
			text := some(size)
			good := first + text + word(crc.Sixteen(text))
			for at := range len(good) {
				for bit := range 8 {
					bad := []byte(good)
					bad[at] ^= 1 << bit
					want := api.ErrSum
					if at == 0 {
						want = api.ErrForm
					}
					refused(t, string(bad), want)
				}
			}
		}
	}
}

// P1 and P2

func TestReadAnyBytes(t *testing.T) {
	n := uint32(7)
	for round := range 20000 {
		text := make([]byte, round%70)
		for i := range text {
			n = n*1664525 + 1013904223
			text[i] = byte(n >> 24)
		}
		if len(text) > 0 && round%2 == 0 {
			text[0] = firsts[round/2%len(firsts)]
		}
		p, code := Read(string(text))
		if code != api.OK {
			if p != (api.Packet{}) {
				t.Errorf("Read(%x): %+v beside %d", text, p, code)
			}
			continue
		}
		if s, code := Write(p); s != string(text) || code != api.OK {
			t.Errorf("Read(%x) is %+v, and its bytes are %x %d", text, p, s, code)
		}
	}
}

func TestSameAnswerAgain(t *testing.T) {
	p := api.Packet{Kind: api.PData0, Data: "abc"}
	first, _ := Write(p)
	Write(api.Packet{Kind: api.PSetup, Addr: 3, End: 1})
	Read("\xd2")
	Check(api.Packet{})
	if again, code := Write(p); again != first || code != api.OK {
		t.Errorf("%x, then %x %d", first, again, code)
	}
}
