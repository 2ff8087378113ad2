package bulk

import (
	"bytes"
	"encoding/binary"
	"fmt"
	"math"
	"slices"
	"strings"
	"testing"

	"plugtree/api"
	"plugtree/scsi"
)

const most = 1<<32 - 1

// far are numbers that are out of all bounds, many of them such that their lower bits are within.
var far = []int{-1, -2, -3, -16, -128, -255, -256, -65536, math.MinInt32, -1 << 32, -1<<32 + 1, 1 << 32, 1<<32 + 1, 1<<32 + 2, 1<<32 + 16, 1<<33 + 2, 1 << 40, 1<<40 + 1, 1 << 48, 1 << 62, 1<<62 + 1, math.MinInt, math.MinInt + 1, math.MinInt + 2, math.MinInt + 16, math.MaxInt, math.MaxInt - 1}

// longs are numbers of four bytes, whose bits tell where each of them goes, with both ends.
func longs() []int {
	list := []int{0, most, 0x12345678, 0x78563412, 0x9abcdef0, 0xff00ff00, 0x00ff00ff}
	for at := range 32 {
		list = append(list, 1<<at, 1<<at-1, most-1<<at)
	}
	return list
}

// dice are numbers that are the same in each run.
type dice struct{ n uint64 }

func (d *dice) below(most int) int {
	d.n = d.n*6364136223846793005 + 1442695040888963407
	return int(d.n>>33) % most
}

func (d *dice) text(size int) string {
	text := make([]byte, size)
	for i := range text {
		text[i] = byte(d.below(256))
	}
	return string(text)
}

// thrown is a disk of so many blocks, with which nothing is wrong, and no two blocks of which are the same.
func (d *dice) thrown(blocks int) api.Disk {
	disk := api.Disk{Sense: []int{0, 32, 33, 36}[d.below(4)]}
	for at := range blocks {
		disk.Blocks = append(disk.Blocks, string([]byte{byte(at)})+d.text(15))
	}
	return disk
}

// with is the text with another byte there.
func with(s string, at int, b byte) string { return s[:at] + string([]byte{b}) + s[at+1:] }

// about is a command that is about blocks, written out.
func about(op byte, lba uint32, count uint16) string {
	text := []byte{op, 0}
	text = binary.BigEndian.AppendUint32(text, lba)
	text = append(text, 0)
	text = binary.BigEndian.AppendUint16(text, count)
	return string(append(text, 0))
}

const (
	ready    = "\x00\x00\x00\x00\x00\x00"
	asksWhy  = "\x03\x00\x00\x00\xff\x00"
	inquiry  = "\x12\x00\x00\x00\x24\x00"
	noAnswer = "\x12\x00\x00\x00\x00\x00"
	capacity = "\x25\x00\x00\x00\x00\x00\x00\x00\x00\x00"
	unknown  = "\x99\x00\x00\x00\x00\x00"
	mode     = "\x1a\x00\x3f\x00\x04\x00"
)

func sameDisk(a, b api.Disk) bool { return a.Sense == b.Sense && slices.Equal(a.Blocks, b.Blocks) }

// What follows, up to the tests, is what the chapter says, word by word.

func wrapByWords(w api.Wrap) (string, api.Errno) {
	if w.Tag < 0 || w.Tag > most || w.Length < 0 || w.Length > most || w.Unit < 0 || w.Unit > 15 || len(w.Command) < 1 || len(w.Command) > 16 {
		return "", api.ErrArg
	}
	text := make([]byte, 31)
	copy(text, "USBC")
	binary.LittleEndian.PutUint32(text[4:], uint32(w.Tag))
	binary.LittleEndian.PutUint32(text[8:], uint32(w.Length))
	if w.In {
		text[12] = 128
	}
	text[13], text[14] = byte(w.Unit), byte(len(w.Command))
	copy(text[15:], w.Command)
	return string(text), api.OK
}

func readWrapByWords(s string) (api.Wrap, api.Errno) {
	if len(s) < 31 {
		return api.Wrap{}, api.ErrShort
	}
	b := []byte(s)
	if len(b) > 31 || !bytes.HasPrefix(b, []byte("USBC")) || b[12] != 0 && b[12] != 128 || b[13] > 15 || b[14] < 1 || b[14] > 16 {
		return api.Wrap{}, api.ErrForm
	}
	command, rest := b[15:15+b[14]], b[15+b[14]:]
	if len(bytes.Trim(rest, "\x00")) > 0 {
		return api.Wrap{}, api.ErrForm
	}
	return api.Wrap{
		Tag:     int(binary.LittleEndian.Uint32(b[4:])),
		Length:  int(binary.LittleEndian.Uint32(b[8:])),
		In:      b[12] == 128,
		Unit:    int(b[13]),
		Command: string(command),
	}, api.OK
}

func statusByWords(t api.Status) (string, api.Errno) {
	if t.Tag < 0 || t.Tag > most || t.Residue < 0 || t.Residue > most || t.Code < 0 || t.Code > 2 {
		return "", api.ErrArg
	}
	text := []byte("USBS")
	text = binary.LittleEndian.AppendUint32(text, uint32(t.Tag))
	text = binary.LittleEndian.AppendUint32(text, uint32(t.Residue))
	return string(append(text, byte(t.Code))), api.OK
}

func readStatusByWords(s string) (api.Status, api.Errno) {
	if len(s) < 13 {
		return api.Status{}, api.ErrShort
	}
	if len(s) > 13 || s[:4] != "USBS" || s[12] > 2 {
		return api.Status{}, api.ErrForm
	}
	b := []byte(s)
	return api.Status{Tag: int(binary.LittleEndian.Uint32(b[4:])), Residue: int(binary.LittleEndian.Uint32(b[8:])), Code: int(b[12])}, api.OK
}

func moveByWords(m api.Move) bool {
	if m.Dir == 0 {
		return m.Len == 0
	}
	return (m.Dir == 1 || m.Dir == 2) && m.Len >= 1 && m.Len <= most
}

// judgeByWords goes through the chapter's table.
func judgeByWords(host, device api.Move) (api.Verdict, api.Errno) {
	if !moveByWords(host) || !moveByWords(device) {
		return api.Verdict{}, api.ErrArg
	}
	found := map[string]int{"00": 1, "01": 2, "02": 3, "10": 4, "11>": 5, "11=": 6, "11<": 7, "12": 8, "20": 9, "21": 10, "22>": 11, "22=": 12, "22<": 13}
	key := fmt.Sprint(host.Dir, device.Dir)
	key = strings.ReplaceAll(key, " ", "")
	if key == "11" || key == "22" {
		sign := "="
		if host.Len > device.Len {
			sign = ">"
		}
		if host.Len < device.Len {
			sign = "<"
		}
		key += sign
	}
	v := api.Verdict{Case: found[key]}
	if slices.Contains([]int{2, 3, 7, 8, 10, 13}, v.Case) {
		v.Code = 2
	} else {
		v.Moved = slices.Min([]int{host.Len, device.Len})
	}
	v.Residue = host.Len - v.Moved
	return v, api.OK
}

// hostByWords is what the host means by a wrap.
func hostByWords(w api.Wrap) api.Move {
	switch {
	case w.Length == 0:
		return api.Move{}
	case w.In:
		return api.Move{Dir: 1, Len: w.Length}
	}
	return api.Move{Dir: 2, Len: w.Length}
}

// deviceByWords is what the device means by a command.
func deviceByWords(d api.Disk, command string) api.Move {
	if len(command) == 10 && command[0] == 42 {
		size := 16 * int(binary.BigEndian.Uint16([]byte(command[7:])))
		if _, _, code := scsi.Do(d, command, strings.Repeat("?", size)); code == api.OK && size > 0 {
			return api.Move{Dir: 2, Len: size}
		}
	}
	if _, text, code := scsi.Do(d, command, ""); code == api.OK && text != "" {
		return api.Move{Dir: 1, Len: len(text)}
	}
	return api.Move{}
}

// served is all that Serve tells.
type served struct {
	disk   api.Disk
	in     string
	status string
	code   api.Errno
}

func serve(d api.Disk, wrap, data string) served {
	disk, in, status, code := Serve(d, wrap, data)
	return served{disk, in, status, code}
}

func serveByWords(d api.Disk, wrap, data string) served {
	if code := scsi.Check(d); code != api.OK {
		return served{disk: d, code: code}
	}
	w, code := readWrapByWords(wrap)
	if code != api.OK || w.Unit != 0 {
		return served{disk: d, code: api.ErrStall}
	}
	host := hostByWords(w)
	v, _ := judgeByWords(host, deviceByWords(d, w.Command))
	if host.Dir == 2 && v.Code != 2 && len(data) != w.Length {
		return served{disk: d, code: api.ErrShort}
	}
	told := served{disk: d}
	if v.Code != 2 {
		some := ""
		if host.Dir == 2 {
			some = data[:v.Moved]
		}
		disk, text, code := scsi.Do(d, w.Command, some)
		told.disk = disk
		if code != api.OK {
			v.Code = 1
		}
		if host.Dir == 1 && v.Code == 0 {
			told.in = text[:v.Moved]
		}
	}
	told.status, _ = statusByWords(api.Status{Tag: w.Tag, Residue: v.Residue, Code: v.Code})
	return told
}

// holdServe holds Serve against the words, and tells what it answered.
func holdServe(t *testing.T, d api.Disk, wrap, data string) served {
	t.Helper()
	before := slices.Clone(d.Blocks)
	got := serve(d, wrap, data)
	if !slices.Equal(d.Blocks, before) {
		t.Fatalf("Serve(%x, %x) changed the disk that was handed in", wrap, data)
	}
	want := serveByWords(d, wrap, data)
	if got.code != want.code || got.in != want.in || got.status != want.status || !sameDisk(got.disk, want.disk) {
		t.Fatalf("Serve(%d blocks, Sense %d, %x, %d bytes) = %x, want %x", len(d.Blocks), d.Sense, wrap, len(data), got, want)
	}
	return got
}

func holdWriteWrap(t *testing.T, w api.Wrap) {
	t.Helper()
	text, code := WriteWrap(w)
	want, wantCode := wrapByWords(w)
	if text != want || code != wantCode {
		t.Errorf("WriteWrap(%v) = %x, %d; want %x, %d", w, text, code, want, wantCode)
	}
	if code != api.OK {
		return
	}
	if back, code := ReadWrap(text); back != w || code != api.OK {
		t.Errorf("ReadWrap(%x) = %v, %d; want %v", text, back, code, w)
	}
}

func holdReadWrap(t *testing.T, s string) {
	t.Helper()
	w, code := ReadWrap(s)
	want, wantCode := readWrapByWords(s)
	if w != want || code != wantCode {
		t.Errorf("ReadWrap(%x) = %v, %d; want %v, %d", s, w, code, want, wantCode)
	}
	if code != api.OK {
		return
	}
	if text, code := WriteWrap(w); text != s || code != api.OK {
		t.Errorf("WriteWrap(%v) = %x, %d; want %x", w, text, code, s)
	}
}

func holdWriteStatus(t *testing.T, s api.Status) {
	t.Helper()
	text, code := WriteStatus(s)
	want, wantCode := statusByWords(s)
	if text != want || code != wantCode {
		t.Errorf("WriteStatus(%v) = %x, %d; want %x, %d", s, text, code, want, wantCode)
	}
	if code != api.OK {
		return
	}
	if back, code := ReadStatus(text); back != s || code != api.OK {
		t.Errorf("ReadStatus(%x) = %v, %d; want %v", text, back, code, s)
	}
}

func holdReadStatus(t *testing.T, s string) {
	t.Helper()
	got, code := ReadStatus(s)
	want, wantCode := readStatusByWords(s)
	if got != want || code != wantCode {
		t.Errorf("ReadStatus(%x) = %v, %d; want %v, %d", s, got, code, want, wantCode)
	}
	if code != api.OK {
		return
	}
	if text, code := WriteStatus(got); text != s || code != api.OK {
		t.Errorf("WriteStatus(%v) = %x, %d; want %x", got, text, code, s)
	}
}

// TestWriteWrapBytes: P21.1: each byte is where it has to be.
func TestWriteWrapBytes(t *testing.T) {
	for _, c := range []struct {
		w    api.Wrap
		want string
	}{
		{api.Wrap{Command: "\x00"}, "USBC" + strings.Repeat("\x00", 10) + "\x01" + strings.Repeat("\x00", 16)},
		{
			api.Wrap{Tag: 0x04030201, Length: 0x08070605, In: true, Unit: 15, Command: "abcdefghijklmnop"},
			"USBC\x01\x02\x03\x04\x05\x06\x07\x08\x80\x0f\x10abcdefghijklmnop",
		},
		{
			api.Wrap{Tag: most, Length: most, Unit: 9, Command: "abcdefghij"},
			"USBC\xff\xff\xff\xff\xff\xff\xff\xff\x00\x09\x0aabcdefghij\x00\x00\x00\x00\x00\x00",
		},
		{
			api.Wrap{Tag: 1, Length: 256, In: true, Command: "\xff\x80"},
			"USBC\x01\x00\x00\x00\x00\x01\x00\x00\x80\x00\x02\xff\x80" + strings.Repeat("\x00", 14),
		},
	} {
		if text, code := WriteWrap(c.w); text != c.want || code != api.OK {
			t.Errorf("WriteWrap(%v) = %x, %d; want %x", c.w, text, code, c.want)
		}
		holdWriteWrap(t, c.w)
	}
}

// TestWriteWrapFields: P21.1: each field at its bounds, within and beyond them.
func TestWriteWrapFields(t *testing.T) {
	for _, in := range []bool{false, true} {
		w := api.Wrap{Tag: 0x12345678, Length: 0x9abcdef0, In: in, Unit: 5, Command: "command"}
		for _, n := range slices.Concat(longs(), far) {
			tag, length := w, w
			tag.Tag, length.Length = n, n
			holdWriteWrap(t, tag)
			holdWriteWrap(t, length)
		}
		for _, n := range far {
			tag, length := w, w
			tag.Tag, length.Length = n, n
			for _, w := range []api.Wrap{tag, length} {
				if text, code := WriteWrap(w); text != "" || code != api.ErrArg {
					t.Errorf("WriteWrap(%v) = %x, %d", w, text, code)
				}
			}
		}
		for unit := -300; unit < 1000; unit++ {
			other := w
			other.Unit = unit
			holdWriteWrap(t, other)
		}
		for _, unit := range append([]int{1 << 8, 1<<8 + 1, 1<<16 + 1, 1<<31 + 1}, far...) {
			other := w
			other.Unit = unit
			holdWriteWrap(t, other)
		}
		for _, size := range []int{0, 1, 2, 15, 16, 17, 18, 31, 32, 255, 256, 257, 272, 1 << 16, 1<<16 + 1, 1<<16 + 16} {
			for _, fill := range []string{"\x00", "a", "\xff"} {
				other := w
				other.Command = strings.Repeat(fill, size)
				holdWriteWrap(t, other)
			}
		}
	}
}

// TestWriteWrapThrown: P21.1.
func TestWriteWrapThrown(t *testing.T) {
	d := dice{1}
	for range 20000 {
		w := d.wrap()
		holdWriteWrap(t, w)
		w.Tag, w.Unit = w.Tag-d.below(3), w.Unit+d.below(3)
		w.Command += d.text(d.below(3))
		holdWriteWrap(t, w)
	}
}

// wrap is one with which nothing is wrong.
func (d *dice) wrap() api.Wrap {
	size := 1 + d.below(16)
	return api.Wrap{Tag: d.below(1 << 31), Length: d.below(1<<31) * 2, In: d.below(2) == 0, Unit: d.below(16), Command: d.text(size)}
}

// TestReadWrapSizes: P21.1: all sizes, of what begins well and of what doesn't.
func TestReadWrapSizes(t *testing.T) {
	d := dice{2}
	for range 50 {
		good, _ := WriteWrap(d.wrap())
		for size := range 120 {
			s := (good + d.text(100))[:size]
			holdReadWrap(t, s)
			holdReadWrap(t, d.text(size))
			holdReadWrap(t, (good + strings.Repeat("\x00", 100))[:size])
			want := api.ErrForm
			switch {
			case size < 31:
				want = api.ErrShort
			case size == 31:
				continue
			}
			if w, code := ReadWrap(s); w != (api.Wrap{}) || code != want {
				t.Errorf("ReadWrap(%x) = %v, %d", s, w, code)
			}
		}
	}
	good, _ := WriteWrap(api.Wrap{Command: "a"})
	for _, more := range []int{256, 1 << 16, 1 << 20} {
		holdReadWrap(t, good+strings.Repeat("\x00", more))
	}
}

// TestReadWrapSlips: P21.1: each byte with each other value, with each size of a command.
func TestReadWrapSlips(t *testing.T) {
	d := dice{3}
	for size := 1; size <= 16; size++ {
		for _, fill := range []string{"\x00", "a"} {
			for _, in := range []bool{false, true} {
				w := d.wrap()
				w.In, w.Command = in, strings.Repeat(fill, size)
				good, _ := WriteWrap(w)
				for at := range good {
					for b := range 256 {
						holdReadWrap(t, with(good, at, byte(b)))
					}
				}
			}
		}
	}
}

// TestReadWrapTwoSlips: P21.1: two slips, of which the one may hide the other.
func TestReadWrapTwoSlips(t *testing.T) {
	d := dice{4}
	bytes := []byte{0, 1, 15, 16, 17, 127, 128, 129, 255}
	for range 4 {
		good, _ := WriteWrap(d.wrap())
		for at := range good {
			for behind := at + 1; behind < len(good); behind++ {
				for _, a := range bytes {
					for _, b := range bytes {
						holdReadWrap(t, with(with(good, at, a), behind, b))
					}
				}
			}
		}
	}
}

// TestReadWrapRest: P21.1: behind the command all bytes have to be 0.
func TestReadWrapRest(t *testing.T) {
	for size := range 256 {
		for fill := range 256 {
			s := "USBC\x01\x02\x03\x04\x05\x06\x07\x08\x80\x0f" + string([]byte{byte(size)}) + strings.Repeat("a", 16)
			if size <= 16 {
				s = s[:15+size] + strings.Repeat(string([]byte{byte(fill)}), 16-size)
			}
			holdReadWrap(t, s)
		}
	}
}

// TestReadWrapForm: P21.1: what is no Wrap's, written out.
func TestReadWrapForm(t *testing.T) {
	good := "USBC\x01\x02\x03\x04\x05\x06\x07\x08\x80\x0f\x02ab" + strings.Repeat("\x00", 14)
	want := api.Wrap{Tag: 0x04030201, Length: 0x08070605, In: true, Unit: 15, Command: "ab"}
	if w, code := ReadWrap(good); w != want || code != api.OK {
		t.Errorf("%v, %d", w, code)
	}
	for _, s := range []string{
		"usbc" + good[4:], "USBS" + good[4:], with(good, 0, 'u'), with(good, 3, 'c'),
		with(good, 12, 1), with(good, 12, 129), with(good, 12, 64), with(good, 12, 255),
		with(good, 13, 16), with(good, 13, 255),
		with(good, 14, 0), with(good, 14, 1), with(good, 14, 17), with(good, 14, 255),
		with(good, 17, 1), with(good, 30, 1),
		good + "\x00", good + good,
	} {
		if w, code := ReadWrap(s); w != (api.Wrap{}) || code != api.ErrForm {
			t.Errorf("ReadWrap(%x) = %v, %d", s, w, code)
		}
	}
}

// TestWriteStatusBytes: P21.2: each byte is where it has to be.
func TestWriteStatusBytes(t *testing.T) {
	for _, c := range []struct {
		s    api.Status
		want string
	}{
		{api.Status{}, "USBS" + strings.Repeat("\x00", 9)},
		{api.Status{Tag: 0x04030201, Residue: 0x08070605, Code: 1}, "USBS\x01\x02\x03\x04\x05\x06\x07\x08\x01"},
		{api.Status{Tag: most, Residue: most, Code: 2}, "USBS\xff\xff\xff\xff\xff\xff\xff\xff\x02"},
		{api.Status{Tag: 1, Residue: 256}, "USBS\x01\x00\x00\x00\x00\x01\x00\x00\x00"},
	} {
		if text, code := WriteStatus(c.s); text != c.want || code != api.OK {
			t.Errorf("WriteStatus(%v) = %x, %d; want %x", c.s, text, code, c.want)
		}
		holdWriteStatus(t, c.s)
	}
}

// TestWriteStatusFields: P21.2: each field at its bounds, within and beyond them.
func TestWriteStatusFields(t *testing.T) {
	for code := range 3 {
		for _, n := range slices.Concat(longs(), far) {
			holdWriteStatus(t, api.Status{Tag: n, Residue: 0x12345678, Code: code})
			holdWriteStatus(t, api.Status{Tag: 0x12345678, Residue: n, Code: code})
		}
		for _, n := range far {
			for _, s := range []api.Status{{Tag: n, Code: code}, {Residue: n, Code: code}} {
				if text, code := WriteStatus(s); text != "" || code != api.ErrArg {
					t.Errorf("WriteStatus(%v) = %x, %d", s, text, code)
				}
			}
		}
	}
	list := []int{3, 4, 255, 256, 257, 258, 1 << 16, 1<<16 + 1, 1<<31 + 1, most}
	for _, n := range slices.Concat(list, far) {
		if text, code := WriteStatus(api.Status{Tag: 1, Residue: 2, Code: n}); text != "" || code != api.ErrArg {
			t.Errorf("WriteStatus with Code %d = %x, %d", n, text, code)
		}
	}
	for n := -300; n < 1000; n++ {
		holdWriteStatus(t, api.Status{Tag: 1, Residue: 2, Code: n})
	}
}

// TestReadStatusSizes: P21.2: all sizes, of what begins well and of what doesn't.
func TestReadStatusSizes(t *testing.T) {
	d := dice{5}
	for range 50 {
		good, _ := WriteStatus(api.Status{Tag: d.below(1 << 31), Residue: d.below(1 << 31), Code: d.below(3)})
		for size := range 60 {
			s := (good + d.text(50))[:size]
			holdReadStatus(t, s)
			holdReadStatus(t, d.text(size))
			holdReadStatus(t, (good + strings.Repeat("\x00", 50))[:size])
			want := api.ErrForm
			switch {
			case size < 13:
				want = api.ErrShort
			case size == 13:
				want = api.OK
			}
			if got, code := ReadStatus(s); code != want || code != api.OK && got != (api.Status{}) {
				t.Errorf("ReadStatus(%x) = %v, %d", s, got, code)
			}
		}
		for _, more := range []int{256, 1 << 16} {
			holdReadStatus(t, good+strings.Repeat("\x00", more))
		}
	}
}

// TestReadStatusSlips: P21.2: each byte with each other value, and two at once.
func TestReadStatusSlips(t *testing.T) {
	d := dice{6}
	for code := range 3 {
		good, _ := WriteStatus(api.Status{Tag: d.below(1 << 31), Residue: d.below(1 << 31), Code: code})
		for at := range good {
			for b := range 256 {
				slip := with(good, at, byte(b))
				holdReadStatus(t, slip)
				holdReadStatus(t, with(slip, d.below(13), byte(d.below(256))))
			}
		}
	}
	for _, s := range []string{"USBC\x01\x02\x03\x04\x05\x06\x07\x08\x01", "usbs\x01\x02\x03\x04\x05\x06\x07\x08\x01", "USBS\x01\x02\x03\x04\x05\x06\x07\x08\x03", "USBS\x01\x02\x03\x04\x05\x06\x07\x08\xff"} {
		if got, code := ReadStatus(s); got != (api.Status{}) || code != api.ErrForm {
			t.Errorf("ReadStatus(%x) = %v, %d", s, got, code)
		}
	}
}

// TestJudgeCases: P21.3: the thirteen cases, written out.
func TestJudgeCases(t *testing.T) {
	nothing := api.Move{}
	in := func(n int) api.Move { return api.Move{Dir: 1, Len: n} }
	out := func(n int) api.Move { return api.Move{Dir: 2, Len: n} }
	for _, c := range []struct {
		host, device api.Move
		want         api.Verdict
	}{
		{nothing, nothing, api.Verdict{Case: 1}},
		{nothing, in(5), api.Verdict{Case: 2, Code: 2}},
		{nothing, out(5), api.Verdict{Case: 3, Code: 2}},
		{in(9), nothing, api.Verdict{Case: 4, Residue: 9}},
		{in(9), in(4), api.Verdict{Case: 5, Moved: 4, Residue: 5}},
		{in(9), in(9), api.Verdict{Case: 6, Moved: 9}},
		{in(9), in(10), api.Verdict{Case: 7, Residue: 9, Code: 2}},
		{in(9), out(9), api.Verdict{Case: 8, Residue: 9, Code: 2}},
		{out(9), nothing, api.Verdict{Case: 9, Residue: 9}},
		{out(9), in(9), api.Verdict{Case: 10, Residue: 9, Code: 2}},
		{out(9), out(4), api.Verdict{Case: 11, Moved: 4, Residue: 5}},
		{out(9), out(9), api.Verdict{Case: 12, Moved: 9}},
		{out(9), out(10), api.Verdict{Case: 13, Residue: 9, Code: 2}},
		{in(most), in(1), api.Verdict{Case: 5, Moved: 1, Residue: most - 1}},
		{in(1), in(most), api.Verdict{Case: 7, Residue: 1, Code: 2}},
		{in(most), in(most), api.Verdict{Case: 6, Moved: most}},
		{out(most), out(most - 1), api.Verdict{Case: 11, Moved: most - 1, Residue: 1}},
		{out(most - 1), out(most), api.Verdict{Case: 13, Residue: most - 1, Code: 2}},
	} {
		if v, code := Judge(c.host, c.device); v != c.want || code != api.OK {
			t.Errorf("Judge(%v, %v) = %v, %d; want %v", c.host, c.device, v, code, c.want)
		}
	}
}

// TestJudge: P21.3: moves of all kinds, and such as are none, against the words.
func TestJudge(t *testing.T) {
	dirs := []int{-2, -1, 0, 1, 2, 3, 4, 128, 256, 257, 1<<32 + 1, 1<<32 + 2, 1 << 62, math.MinInt, math.MinInt + 1, math.MaxInt}
	lens := []int{math.MinInt, math.MinInt + 1, -1 << 32, -1<<32 + 1, -2, -1, 0, 1, 2, 3, 255, 256, 1<<31 - 1, 1 << 31, most - 1, most, most + 1, most + 2, 1 << 33, 1 << 62, math.MaxInt}
	var moves []api.Move
	for _, dir := range dirs {
		for _, size := range lens {
			moves = append(moves, api.Move{Dir: dir, Len: size})
		}
	}
	for _, host := range moves {
		for _, device := range moves {
			v, code := Judge(host, device)
			want, wantCode := judgeByWords(host, device)
			if v != want || code != wantCode {
				t.Errorf("Judge(%v, %v) = %v, %d; want %v, %d", host, device, v, code, want, wantCode)
			}
		}
	}
}

// TestJudgeNoMoves: P21.3: one of both that is no move is enough.
func TestJudgeNoMoves(t *testing.T) {
	rights := []api.Move{{}, {Dir: 1, Len: 1}, {Dir: 2, Len: 1}, {Dir: 1, Len: most}, {Dir: 2, Len: most}}
	wrongs := []api.Move{{Dir: 0, Len: 1}, {Dir: 0, Len: -1}, {Dir: 1}, {Dir: 2}, {Dir: 1, Len: -1}, {Dir: 2, Len: -1}, {Dir: 1, Len: most + 1}, {Dir: 2, Len: most + 1}, {Dir: 3}, {Dir: 3, Len: 1}, {Dir: -1}, {Dir: -1, Len: 1}}
	for _, wrong := range wrongs {
		for _, right := range rights {
			for _, pair := range [][2]api.Move{{wrong, right}, {right, wrong}, {wrong, wrong}} {
				if v, code := Judge(pair[0], pair[1]); v != (api.Verdict{}) || code != api.ErrArg {
					t.Errorf("Judge(%v, %v) = %v, %d", pair[0], pair[1], v, code)
				}
			}
		}
	}
}

// wrapped is the bytes of a wrap with which nothing is wrong.
func wrapped(t *testing.T, length int, in bool, command string) string {
	t.Helper()
	text, code := WriteWrap(api.Wrap{Tag: 0x04030201, Length: length, In: in, Command: command})
	if code != api.OK {
		t.Fatal(code)
	}
	return text
}

// TestServeCases: P21.4: each case, written out.
func TestServeCases(t *testing.T) {
	disk := (&dice{7}).thrown(8)
	disk.Sense = 33
	data := strings.Repeat("z", 64)
	wrote := slices.Clone(disk.Blocks)
	wrote[2], wrote[3] = data[:16], data[16:32]
	blocks := strings.Join(disk.Blocks[2:4], "")
	for _, c := range []struct {
		name    string
		length  int
		in      bool
		command string
		data    string

		blocks  []string
		sense   int
		comes   string
		residue int
		code    int
	}{
		{"1", 0, false, ready, "", disk.Blocks, 0, "", 0, 0},
		{"1, in", 0, true, ready, "", disk.Blocks, 0, "", 0, 0},
		{"1, no block", 0, false, about(42, 2, 0), "", disk.Blocks, 0, "", 0, 0},
		{"1, data is there", 0, false, about(42, 2, 0), data, disk.Blocks, 0, "", 0, 0},
		{"1, data is there, in", 0, true, about(42, 2, 0), data, disk.Blocks, 0, "", 0, 0},
		{"1, no byte", 0, false, noAnswer, "", disk.Blocks, 0, "", 0, 0},
		{"1, fails", 0, false, unknown, "", disk.Blocks, 32, "", 0, 1},
		{"1, fails to write", 0, false, about(42, 7, 2), "", disk.Blocks, 33, "", 0, 1},
		{"2", 0, false, about(40, 2, 2), "", disk.Blocks, 33, "", 0, 2},
		{"2, in", 0, true, inquiry, "", disk.Blocks, 33, "", 0, 2},
		{"3", 0, false, about(42, 2, 2), data[:32], disk.Blocks, 33, "", 0, 2},
		{"3, in", 0, true, about(42, 2, 2), "", disk.Blocks, 33, "", 0, 2},
		{"4", 40, true, ready, "", disk.Blocks, 0, "", 40, 0},
		{"4, no block", 40, true, about(42, 2, 0), data, disk.Blocks, 0, "", 40, 0},
		{"4, fails", 32, true, about(40, 7, 2), "", disk.Blocks, 33, "", 32, 1},
		{"4, fails otherwise", 32, true, with(inquiry, 1, 1), "", disk.Blocks, 36, "", 32, 1},
		{"5", 40, true, about(40, 2, 2), "", disk.Blocks, 0, blocks, 8, 0},
		{"5, why", most, true, asksWhy, data, disk.Blocks, 0, "\x70\x00\x05\x00\x00\x00\x00\x0a\x00\x00\x00\x00\x21\x00\x00\x00\x00\x00", most - 18, 0},
		{"6", 32, true, about(40, 2, 2), "", disk.Blocks, 0, blocks, 0, 0},
		{"6, data isn't looked at", 32, true, about(40, 2, 2), "data", disk.Blocks, 0, blocks, 0, 0},
		{"7", 31, true, about(40, 2, 2), "", disk.Blocks, 33, "", 31, 2},
		{"8", 32, true, about(42, 2, 2), data[:32], disk.Blocks, 33, "", 32, 2},
		{"9", 3, false, ready, "abc", disk.Blocks, 0, "", 3, 0},
		{"9, no block", 16, false, about(42, 2, 0), data[:16], disk.Blocks, 0, "", 16, 0},
		{"9, syncs", 32, false, about(53, 2, 2), data[:32], disk.Blocks, 0, "", 32, 0},
		{"9, fails", 32, false, about(42, 7, 2), data[:32], disk.Blocks, 33, "", 32, 1},
		{"9, fails otherwise", 32, false, with(about(42, 2, 2), 9, 1), data[:32], disk.Blocks, 36, "", 32, 1},
		{"10", 32, false, about(40, 2, 2), data[:32], disk.Blocks, 33, "", 32, 2},
		{"10, data isn't looked at", 8, false, capacity, "", disk.Blocks, 33, "", 8, 2},
		{"11", 40, false, about(42, 2, 2), data[:40], wrote, 0, "", 8, 0},
		{"12", 32, false, about(42, 2, 2), data[:32], wrote, 0, "", 0, 0},
		{"13", 31, false, about(42, 2, 2), data[:31], disk.Blocks, 33, "", 31, 2},
		{"13, data isn't looked at", 16, false, about(42, 2, 2), "abc", disk.Blocks, 33, "", 16, 2},
	} {
		got := holdServe(t, disk, wrapped(t, c.length, c.in, c.command), c.data)
		status := "USBS\x01\x02\x03\x04" + string(binary.LittleEndian.AppendUint32(nil, uint32(c.residue))) + string([]byte{byte(c.code)})
		if got.code != api.OK || got.in != c.comes || got.status != status || !sameDisk(got.disk, api.Disk{Blocks: c.blocks, Sense: c.sense}) {
			t.Errorf("case %s: %x", c.name, got)
		}
	}
}

// TestServeErrors: P21.4: each error, with the disk as it was handed in, and nothing else; and which is told where several apply.
func TestServeErrors(t *testing.T) {
	d := dice{8}
	disk := d.thrown(4)
	disk.Sense = 36
	none, many, short, strange := api.Disk{Sense: 33}, d.thrown(65), d.thrown(4), d.thrown(4)
	short.Blocks[3], strange.Sense = "short", 34
	good := wrapped(t, 32, false, about(42, 1, 2))
	other, _ := WriteWrap(api.Wrap{Length: 32, Unit: 1, Command: about(42, 1, 2)})
	last, _ := WriteWrap(api.Wrap{Length: 32, Unit: 15, Command: about(42, 1, 2)})
	marked, _ := WriteWrap(api.Wrap{Unit: 1, Command: inquiry})
	data := strings.Repeat("z", 32)
	for _, c := range []struct {
		name       string
		disk       api.Disk
		wrap, data string
		want       api.Errno
	}{
		{"no blocks", none, good, data, api.ErrArg},
		{"many blocks", many, good, data, api.ErrArg},
		{"a short block", short, good, data, api.ErrForm},
		{"a strange Sense", strange, good, data, api.ErrForm},
		{"no blocks, a short wrap", none, good[:30], data, api.ErrArg},
		{"a strange Sense, another unit", strange, other, data, api.ErrForm},
		{"a short block, short data", short, good, data[:31], api.ErrForm},
		{"no wrap", disk, "", data, api.ErrStall},
		{"a short wrap", disk, good[:30], data, api.ErrStall},
		{"a long wrap", disk, good + "\x00", data, api.ErrStall},
		{"a status", disk, with(good, 3, 'S'), data, api.ErrStall},
		{"a wrap with a slip", disk, with(good, 12, 1), data, api.ErrStall},
		{"a command without bytes", disk, with(good, 14, 0), data, api.ErrStall},
		{"another unit", disk, other, data, api.ErrStall},
		{"the last unit", disk, last, data, api.ErrStall},
		{"another unit, short data", disk, other, data[:31], api.ErrStall},
		{"another unit, they don't agree", disk, marked, "", api.ErrStall},
		{"no data", disk, good, "", api.ErrShort},
		{"short data", disk, good, data[:31], api.ErrShort},
		{"long data", disk, good, data + "z", api.ErrShort},
		{"short data, as much as is written", disk, wrapped(t, 33, false, about(42, 1, 2)), data, api.ErrShort},
		{"short data, a command that moves nothing", disk, wrapped(t, 3, false, ready), "ab", api.ErrShort},
		{"short data, a command that fails", disk, wrapped(t, 32, false, about(42, 3, 2)), data[:31], api.ErrShort},
		{"long data, an unknown command", disk, wrapped(t, 3, false, unknown), "abcd", api.ErrShort},
		{"as much data as could never be", disk, wrapped(t, most, false, ready), data, api.ErrShort},
	} {
		got := holdServe(t, c.disk, c.wrap, c.data)
		if got.code != c.want || got.in != "" || got.status != "" || !sameDisk(got.disk, c.disk) {
			t.Errorf("%s: %x", c.name, got)
		}
	}
}

// TestServeLengths: P21.4: each Length up to beyond what is moved, in and out, with data of each size about it.
func TestServeLengths(t *testing.T) {
	d := dice{9}
	disk := d.thrown(5)
	data := d.text(120)
	commands := []string{ready, asksWhy, inquiry, noAnswer, mode, capacity, unknown, about(40, 1, 0), about(40, 1, 2), about(40, 4, 2), about(42, 1, 0), about(42, 1, 1), about(42, 2, 3), about(42, 3, 3), about(53, 1, 2), ready + ready, "\x2a"}
	for _, command := range commands {
		for length := range 100 {
			for _, in := range []bool{false, true} {
				wrap := wrapped(t, length, in, command)
				for _, size := range []int{0, max(length-1, 0), length, length + 1, 16, 48} {
					holdServe(t, disk, wrap, data[:size])
				}
			}
		}
	}
}

// TestServeUnits: P21.4: no unit but 0 is served.
func TestServeUnits(t *testing.T) {
	disk := (&dice{10}).thrown(2)
	for unit := range 16 {
		wrap, _ := WriteWrap(api.Wrap{Unit: unit, Command: ready})
		want := api.ErrStall
		if unit == 0 {
			want = api.OK
		}
		if got := holdServe(t, disk, wrap, ""); got.code != want {
			t.Errorf("unit %d: %x", unit, got)
		}
	}
}

// TestServeTags: P21.4: the status has the wrap's Tag.
func TestServeTags(t *testing.T) {
	disk := (&dice{11}).thrown(2)
	for _, tag := range longs() {
		wrap, _ := WriteWrap(api.Wrap{Tag: tag, Length: 7, In: true, Command: inquiry})
		if s, code := ReadStatus(holdServe(t, disk, wrap, "").status); s != (api.Status{Tag: tag, Residue: 7, Code: 2}) || code != api.OK {
			t.Errorf("Tag %d: %v, %d", tag, s, code)
		}
	}
}

// TestServeSlips: P21.4: a wrap with a slip anywhere, each value of a byte.
func TestServeSlips(t *testing.T) {
	d := dice{12}
	disk, data := d.thrown(4), d.text(32)
	for _, good := range []string{wrapped(t, 32, false, about(42, 1, 2)), wrapped(t, 32, true, about(40, 1, 2)), wrapped(t, 18, true, asksWhy)} {
		for at := range good {
			for b := range 256 {
				holdServe(t, disk, with(good, at, byte(b)), data)
			}
		}
		for size := range len(good) {
			holdServe(t, disk, good[:size], data)
		}
	}
}

// TestServeFarWrites: P21.4: a WRITE of more blocks than there are means nothing.
func TestServeFarWrites(t *testing.T) {
	disk := (&dice{13}).thrown(64)
	for _, c := range []struct {
		lba   uint32
		count uint16
	}{{0, 65}, {1, 64}, {63, 2}, {64, 1}, {0, 1<<16 - 1}, {1<<32 - 1, 1}, {1<<32 - 1, 1<<16 - 1}, {1 << 31, 1 << 15}} {
		size := 16 * int(c.count)
		got := holdServe(t, disk, wrapped(t, size, false, about(42, c.lba, c.count)), strings.Repeat("z", size))
		want := api.Status{Tag: 0x04030201, Residue: size, Code: 1}
		if s, _ := ReadStatus(got.status); s != want || got.disk.Sense != 33 || !slices.Equal(got.disk.Blocks, disk.Blocks) {
			t.Errorf("%d from %d on: %v", c.count, c.lba, got.disk.Sense)
		}
	}
}

// TestServeMemory: P2: the disk that is answered shares nothing with the one that was handed in, nor is the room behind that used.
func TestServeMemory(t *testing.T) {
	d := dice{14}
	wrong := d.thrown(4)
	wrong.Blocks[2] = "wrong"
	for _, disk := range []api.Disk{d.thrown(4), wrong, d.thrown(64), d.thrown(65)} {
		for _, wrap := range []string{"", "wrap", wrapped(t, 32, false, about(42, 1, 2)), wrapped(t, 32, false, about(42, 1, 3)), wrapped(t, 33, false, about(42, 1, 2)), wrapped(t, 32, true, about(40, 1, 2)), wrapped(t, 1, true, about(40, 1, 2)), wrapped(t, 0, true, unknown)} {
			room := append(slices.Clone(disk.Blocks), "room", "room")
			got := serve(api.Disk{Blocks: room[:len(disk.Blocks)], Sense: disk.Sense}, wrap, strings.Repeat("z", 32))
			for i := range got.disk.Blocks {
				got.disk.Blocks[i] = "other"
			}
			_ = append(got.disk.Blocks, "other")
			if !slices.Equal(room[:len(disk.Blocks)], disk.Blocks) || room[len(disk.Blocks)] != "room" || room[len(disk.Blocks)+1] != "room" {
				t.Fatalf("Serve(%x) shares: %q", wrap, room)
			}
		}
	}
}

// TestServeKeepsNothing: P2: the same is answered again, whatever was done between.
func TestServeKeepsNothing(t *testing.T) {
	d := dice{15}
	disk, data := d.thrown(8), d.text(32)
	wraps := []string{wrapped(t, 32, false, about(42, 1, 2)), wrapped(t, 18, true, asksWhy), wrapped(t, 32, true, about(40, 1, 2))}
	for _, wrap := range wraps {
		first := serve(disk, wrap, data)
		for _, other := range wraps {
			Serve(d.thrown(8), other, d.text(32))
			Serve(disk, wrapped(t, 0, false, unknown), "")
		}
		again := serve(disk, wrap, data)
		if again.in != first.in || again.status != first.status || again.code != first.code || !sameDisk(again.disk, first.disk) {
			t.Errorf("Serve(%x) = %x; ahead of it %x", wrap, again, first)
		}
	}
}

// TestServeWalks holds disks through many wraps against the words, most of them near to right ones.
func TestServeWalks(t *testing.T) {
	d := dice{16}
	for range 300 {
		disk := d.thrown(1 + d.below(64))
		for range 100 {
			wrap, data := d.near(len(disk.Blocks))
			disk = holdServe(t, disk, wrap, data).disk
		}
	}
}

// near is a wrap that is thrown for a disk of so many blocks, with its data.
func (d *dice) near(blocks int) (string, string) {
	lba := d.below(blocks + 1)
	count := d.below(min(blocks-lba, 5) + 1)
	list := []string{ready, asksWhy, inquiry, mode, capacity, unknown}
	for _, op := range []byte{40, 42, 42, 53} {
		list = append(list, about(op, uint32(lba), uint16(count)), about(op, uint32(lba), uint16(count)))
	}
	command := list[d.below(len(list))]
	if d.below(8) == 0 {
		command = with(command, d.below(len(command)), byte(d.below(256)))
	}
	length := []int{0, 4, 8, 18, 36, 16 * count, 16 * count, 16 * count, d.below(100)}[d.below(9)]
	wrap, _ := WriteWrap(api.Wrap{Tag: d.below(1 << 31), Length: length, In: d.below(2) == 0, Command: command})
	if d.below(20) == 0 {
		wrap = with(wrap, d.below(len(wrap)), byte(d.below(256)))
	}
	data := d.text(length)
	if d.below(8) == 0 {
		data = d.text(d.below(100))
	}
	return wrap, data
}

// TestServeKeepsBlocks: what is read is what was written there last, whatever else the disk was served with.
func TestServeKeepsBlocks(t *testing.T) {
	d := dice{17}
	disk, _ := scsi.New(64)
	model := strings.Repeat("\x00", 16*64)
	for range 2000 {
		lba := d.below(64)
		count := 1 + d.below(64-lba)
		data := d.text(16*count + d.below(3))
		got := serve(disk, wrapped(t, len(data), false, about(42, uint32(lba), uint16(count))), data)
		if got.code != api.OK {
			t.Fatal(got.code)
		}
		disk, model = got.disk, model[:16*lba]+data[:16*count]+model[16*(lba+count):]
		// None of these writes anything.
		for _, wrap := range []string{
			wrapped(t, 16*count-1, false, about(42, uint32(lba), uint16(count))),
			wrapped(t, 16*count, true, about(42, uint32(lba), uint16(count))),
			wrapped(t, 16*count, false, about(42, uint32(lba)+64, uint16(count))),
			wrapped(t, 16*count, false, about(40, uint32(lba), uint16(count))),
		} {
			disk = serve(disk, wrap, d.text(16*count)).disk
		}
		got = serve(disk, wrapped(t, 16*count+d.below(3), true, about(40, uint32(lba), uint16(count))), "")
		if disk = got.disk; got.in != model[16*lba:16*(lba+count)] {
			t.Fatalf("%d from %d on: %x", count, lba, got)
		}
	}
	if strings.Join(disk.Blocks, "") != model {
		t.Error("the disk isn't what was written")
	}
}
