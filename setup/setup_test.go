package setup

import (
	"math"
	"strings"
	"testing"

	"plugtree/api"
)

// row is a line of the chapter's table: a kind, its bytes, and each number that it may have, from one to another, two by two.
type row struct {
	kind                 int
	bytes                string
	value, index, length []int
}

func table() []row {
	none, port, one, end := []int{0, 0}, []int{1, 15}, []int{1, 1}, []int{0, 15, 128, 143}
	aByte, aWord := []int{0, 255}, []int{0, 65535}
	return []row{
		{1, "\x80\x00", none, none, []int{2, 2}},
		{2, "\x02\x01", none, end, none},
		{3, "\x02\x03", none, end, none},
		{4, "\x00\x05", []int{0, 127}, none, none},
		{5, "\x80\x06", aWord, aWord, aWord},
		{6, "\x00\x09", aByte, none, none},
		{7, "\x80\x08", none, none, one},
		{8, "\xa3\x00", none, port, []int{4, 4}},
		{9, "\x23\x03", []int{0, 31}, port, none},
		{10, "\x23\x01", []int{0, 31}, port, none},
		{11, "\x21\xff", none, aByte, none},
		{12, "\xa1\xfe", none, aByte, one},
		{13, "\x21\x0a", aWord, aByte, none},
		{14, "\x21\x09", []int{512, 512}, aByte, one},
	}
}

func may(n int, spans []int) bool {
	for i := 0; i < len(spans); i += 2 {
		if spans[i] <= n && n <= spans[i+1] {
			return true
		}
	}
	return false
}

func (r row) ask() api.Ask {
	return api.Ask{Kind: r.kind, Value: r.value[0], Index: r.index[0], Length: r.length[0]}
}

func (r row) may(a api.Ask) bool {
	return may(a.Value, r.value) && may(a.Index, r.index) && may(a.Length, r.length)
}

func raw(numbers ...int) string {
	var text []byte
	for _, n := range numbers {
		text = append(text, byte(n))
	}
	return string(text)
}

func (r row) text(a api.Ask) string {
	return r.bytes + raw(a.Value%256, a.Value/256, a.Index%256, a.Index/256, a.Length%256, a.Length/256)
}

func bothWays(t *testing.T, a api.Ask, want string) {
	t.Helper()
	if got, code := Write(a); got != want || code != api.OK {
		t.Errorf("Write(%+v): %x %d, not %x", a, got, code, want)
	}
	if got, code := Read(want); got != a || code != api.OK {
		t.Errorf("Read(%x): %+v %d, not %+v", want, got, code, a)
	}
}

func noAsk(t *testing.T, a api.Ask) {
	t.Helper()
	if got, code := Write(a); got != "" || code != api.ErrArg {
		t.Errorf("Write(%+v): %x %d, not ErrArg", a, got, code)
	}
}

func notRead(t *testing.T, s string, want api.Errno) {
	t.Helper()
	if got, code := Read(s); got != (api.Ask{}) || code != want {
		t.Errorf("Read(%x): %+v %d, not %d", s, got, code, want)
	}
}

// asTable holds Write and Read against the chapter's table.
func (r row) asTable(t *testing.T, a api.Ask) {
	t.Helper()
	if r.may(a) {
		bothWays(t, a, r.text(a))
		return
	}
	noAsk(t, a)
	word := []int{0, 65535}
	if may(a.Value, word) && may(a.Index, word) && may(a.Length, word) {
		notRead(t, r.text(a), api.ErrNone)
	}
}

// far are numbers that are out of all bounds, many of them such that their lower bits are not.
func far() []int {
	list := []int{-1, -2, -128, -255, -256, -65535, -65536, 65536, math.MaxInt, math.MinInt, math.MaxInt32, math.MinInt32}
	for _, n := range []int{0, 1, 2, 4, 15, 128, 143, 512} {
		for _, bits := range []int{16, 17, 31, 32, 48, 62} {
			list = append(list, n+1<<bits, n-1<<bits)
		}
		list = append(list, math.MinInt+n)
	}
	return list
}

// P7.1

func TestKnown(t *testing.T) {
	bothWays(t, api.Ask{Kind: api.AAddress, Value: 5}, raw(0, 5, 5, 0, 0, 0, 0, 0))
	bothWays(t, api.Ask{Kind: api.AStatus, Length: 2}, "\x80\x00\x00\x00\x00\x00\x02\x00")
	bothWays(t, api.Ask{Kind: api.AHaltOff, Index: 0x8f}, "\x02\x01\x00\x00\x8f\x00\x00\x00")
	bothWays(t, api.Ask{Kind: api.AHaltOn, Index: 15}, "\x02\x03\x00\x00\x0f\x00\x00\x00")
	bothWays(t, api.Ask{Kind: api.ADescribe, Value: 0x0102, Index: 0x0304, Length: 0x0506}, "\x80\x06\x02\x01\x04\x03\x06\x05")
	bothWays(t, api.Ask{Kind: api.AConfigure, Value: 255}, "\x00\x09\xff\x00\x00\x00\x00\x00")
	bothWays(t, api.Ask{Kind: api.AConfigured, Length: 1}, "\x80\x08\x00\x00\x00\x00\x01\x00")
	bothWays(t, api.Ask{Kind: api.APortStatus, Index: 3, Length: 4}, "\xa3\x00\x00\x00\x03\x00\x04\x00")
	bothWays(t, api.Ask{Kind: api.APortOn, Value: 8, Index: 1}, "\x23\x03\x08\x00\x01\x00\x00\x00")
	bothWays(t, api.Ask{Kind: api.APortOff, Value: 16, Index: 15}, "\x23\x01\x10\x00\x0f\x00\x00\x00")
	bothWays(t, api.Ask{Kind: api.ABulkReset, Index: 7}, "\x21\xff\x00\x00\x07\x00\x00\x00")
	bothWays(t, api.Ask{Kind: api.AMaxUnit, Index: 255, Length: 1}, "\xa1\xfe\x00\x00\xff\x00\x01\x00")
	bothWays(t, api.Ask{Kind: api.AIdle, Value: 0x7d00, Index: 2}, "\x21\x0a\x00\x7d\x02\x00\x00\x00")
	bothWays(t, api.Ask{Kind: api.ALights, Value: 512, Index: 1, Length: 1}, "\x21\x09\x00\x02\x01\x00\x01\x00")
}

func TestEachNumberOfEachKind(t *testing.T) {
	for _, r := range table() {
		for n := -300; n < 65536+300; n++ {
			value, index, length := r.ask(), r.ask(), r.ask()
			value.Value, index.Index, length.Length = n, n, n
			r.asTable(t, value)
			r.asTable(t, index)
			r.asTable(t, length)
		}
	}
}

func TestFarNumbers(t *testing.T) {
	for _, r := range table() {
		for _, n := range far() {
			value, index, length := r.ask(), r.ask(), r.ask()
			value.Value, index.Index, length.Length = n, n, n
			noAsk(t, value)
			noAsk(t, index)
			noAsk(t, length)
			noAsk(t, api.Ask{Kind: r.kind, Value: n, Index: n, Length: n})
		}
	}
}

// Numbers at the edges of any kind, three by three, of each kind.
func TestEdgesTogether(t *testing.T) {
	edges := []int{-1, 0, 1, 2, 3, 4, 5, 15, 16, 31, 32, 127, 128, 143, 144, 255, 256, 511, 512, 513, 65535, 65536}
	for _, r := range table() {
		for _, value := range edges {
			for _, index := range edges {
				for _, length := range edges {
					r.asTable(t, api.Ask{Kind: r.kind, Value: value, Index: index, Length: length})
				}
			}
		}
	}
}

// P7.2

func TestNoSuchKind(t *testing.T) {
	kinds := append(far(), 0, 15, 16, 255, 256, 257)
	for n := range 15 {
		kinds = append(kinds, n+256, n+65536, n-256, n-16, n+16)
	}
	for _, kind := range kinds {
		if 1 <= kind && kind <= 14 {
			t.Fatalf("%d is a kind", kind)
		}
		noAsk(t, api.Ask{Kind: kind})
		for _, r := range table() {
			a := r.ask()
			a.Kind = kind
			noAsk(t, a)
		}
	}
}

func TestReadSizes(t *testing.T) {
	for _, r := range table() {
		s := r.text(r.ask())
		for size := range 8 {
			notRead(t, s[:size], api.ErrShort)
			notRead(t, s[8-size:], api.ErrShort)
		}
		notRead(t, s+"\x00", api.ErrForm)
		notRead(t, "\x00"+s, api.ErrForm)
		notRead(t, s+s, api.ErrForm)
	}
	for size := range 300 {
		for _, sign := range []string{"\x00", "\x80", "\xff"} {
			want := api.ErrNone
			if size < 8 {
				want = api.ErrShort
			}
			if size > 8 {
				want = api.ErrForm
			}
			notRead(t, strings.Repeat(sign, size), want)
		}
	}
	notRead(t, strings.Repeat("\x00", 1<<20), api.ErrForm)
}

// readTable is the Ask that the chapter's table has for these eight bytes.
func readTable(rows []row, s string) (api.Ask, api.Errno) {
	for _, r := range rows {
		a := api.Ask{Kind: r.kind}
		a.Value, a.Index, a.Length = int(s[2])+int(s[3])*256, int(s[4])+int(s[5])*256, int(s[6])+int(s[7])*256
		if s[:2] == r.bytes && r.may(a) {
			return a, api.OK
		}
	}
	return api.Ask{}, api.ErrNone
}

func readAsTable(t *testing.T, rows []row, s string) {
	t.Helper()
	want, wantCode := readTable(rows, s)
	if got, code := Read(s); got != want || code != wantCode {
		t.Errorf("Read(%x): %+v %d, not %+v %d", s, got, code, want, wantCode)
	}
}

// The two bytes of a kind, any two, ahead of what some kind has behind them.
func TestReadEachKind(t *testing.T) {
	rows, rests := table(), make(map[string]int)
	for _, r := range rows {
		rests[r.text(r.ask())[2:]]++
	}
	for rest := range rests {
		for n := range 65536 {
			readAsTable(t, rows, raw(n/256, n%256)+rest)
		}
	}
}

func TestReadEachByte(t *testing.T) {
	rows := table()
	for _, r := range rows {
		s := r.text(r.ask())
		for at := range 8 {
			for n := range 256 {
				for other := range 8 {
					for _, m := range []int{0, 1, 2, 128, 255} {
						text := []byte(s)
						text[at], text[other] = byte(n), byte(m)
						readAsTable(t, rows, string(text))
					}
				}
			}
		}
	}
}

// P2

func TestSameAnswerAgain(t *testing.T) {
	for _, r := range table() {
		text, _ := Write(r.ask())
		Write(api.Ask{Kind: 99})
		Read("x")
		Read(strings.Repeat("\xff", 8))
		bothWays(t, r.ask(), text)
	}
}
