package scsi

import (
	"encoding/binary"
	"math"
	"slices"
	"strings"
	"testing"

	"plugtree/api"
)

// far are numbers that are out of all bounds, many of them such that their lower bits are within.
var far = []int{-1, -2, -16, -40, -42, -53, -64, -256, -65535, -65536, 1<<32 + 1, 1<<32 + 4, 1<<32 + 32, 1<<32 + 33, 1<<32 + 36, 1<<32 + 40, 1<<32 + 42, 1<<32 + 53, 1<<33 + 64, 1 << 40, 1<<40 + 40, 1 << 48, 1 << 62, 1<<62 + 1, 1<<62 + 42, math.MinInt, math.MinInt + 1, math.MinInt + 16, math.MinInt + 36, math.MinInt + 40, math.MinInt + 53, math.MinInt + 64, math.MinInt32, math.MaxInt, math.MaxInt - 1}

var senses = []int{0, 32, 33, 36}

// dice are numbers that are the same in each run.
type dice struct{ n uint64 }

func (d *dice) below(most int) int {
	d.n = d.n*6364136223846793005 + 1442695040888963407
	return int(d.n>>33) % most
}

func (d *dice) text(size int) string {
	text := make([]byte, size)
	for i := range text {
		text[i] = byte(d.below(256))
	}
	return string(text)
}

// thrown is a disk of so many blocks, with which nothing is wrong, and no two blocks of which are the same.
func (d *dice) thrown(blocks int) api.Disk {
	disk := api.Disk{Sense: senses[d.below(4)]}
	for at := range blocks {
		disk.Blocks = append(disk.Blocks, string([]byte{byte(at)})+d.text(15))
	}
	return disk
}

// with is the text with another byte there.
func with(s string, at int, b byte) string { return s[:at] + string([]byte{b}) + s[at+1:] }

// about is a command that is about blocks, written out.
func about(op byte, lba uint32, count uint16) string {
	text := []byte{op, 0}
	text = binary.BigEndian.AppendUint32(text, lba)
	text = append(text, 0)
	text = binary.BigEndian.AppendUint16(text, count)
	return string(append(text, 0))
}

// rights are commands of each kind with which nothing is wrong.
func rights() []string {
	return []string{
		"\x00\x00\x00\x00\x00\x00",
		"\x03\x00\x00\x00\x12\x00",
		"\x12\x00\x00\x00\x24\x00",
		"\x1a\x00\x3f\x00\x04\x00",
		"\x25\x00\x00\x00\x00\x00\x00\x00\x00\x00",
		about(40, 1, 2),
		about(42, 1, 0),
		about(53, 1, 2),
	}
}

func sameDisk(a, b api.Disk) bool { return a.Sense == b.Sense && slices.Equal(a.Blocks, b.Blocks) }

// What follows, up to the tests, is what the chapter says, word by word.

func checkByWords(d api.Disk) api.Errno {
	if len(d.Blocks) < 1 || len(d.Blocks) > 64 {
		return api.ErrArg
	}
	if slices.ContainsFunc(d.Blocks, func(s string) bool { return len(s) != 16 }) || !slices.Contains(senses, d.Sense) {
		return api.ErrForm
	}
	return api.OK
}

// row is one of the chapter's table: how many bytes there are, and which of them are named.
type row struct {
	size  int
	named []int
}

var table = map[byte]row{
	0:  {6, nil},
	3:  {6, []int{4}},
	18: {6, []int{4}},
	26: {6, []int{2, 4}},
	37: {10, nil},
	40: {10, []int{2, 3, 4, 5, 7, 8}},
	42: {10, []int{2, 3, 4, 5, 7, 8}},
	53: {10, []int{2, 3, 4, 5, 7, 8}},
}

// formByWords is the Sense of a command that can't be done by whatever disk, or 0.
func formByWords(command string) int {
	if len(command) == 0 {
		return 32
	}
	r, known := table[command[0]]
	if !known {
		return 32
	}
	if len(command) != r.size {
		return 36
	}
	for at := 1; at < len(command); at++ {
		if command[at] != 0 && !slices.Contains(r.named, at) {
			return 36
		}
	}
	if command[0] == 26 && command[2] != 63 {
		return 36
	}
	return 0
}

// wholeByWords is all that could be answered to a command of which byte 4 is a number.
func wholeByWords(sense int, op byte) []byte {
	switch op {
	case 3:
		key := byte(5)
		if sense == 0 {
			key = 0
		}
		return []byte{112, 0, key, 0, 0, 0, 0, 10, 0, 0, 0, 0, byte(sense), 0, 0, 0, 0, 0}
	case 18:
		return append([]byte{0, 128, 4, 2, 31, 0, 0, 0}, "plugtreedisk            1   "...)
	}
	return []byte{3, 0, 0, 0}
}

// doneByWords is what a command in its form comes to: its Sense, and what is answered; blocks are written to.
func doneByWords(blocks []string, sense int, command, data string) (int, string) {
	switch op := command[0]; op {
	case 0:
		return 0, ""
	case 3, 18, 26:
		text := ""
		for at, b := range wholeByWords(sense, op) {
			if at < int(command[4]) {
				text += string([]byte{b})
			}
		}
		return 0, text
	case 37:
		return 0, "\x00\x00\x00" + string([]byte{byte(len(blocks) - 1)}) + "\x00\x00\x00\x10"
	}
	lba, count := uint64(binary.BigEndian.Uint32([]byte(command[2:]))), uint64(binary.BigEndian.Uint16([]byte(command[7:])))
	if lba+count > uint64(len(blocks)) {
		return 33, ""
	}
	if command[0] == 42 && uint64(len(data)) != 16*count {
		return 36, ""
	}
	text := ""
	for at := lba; at < lba+count; at++ {
		switch command[0] {
		case 40:
			text += blocks[at]
		case 42:
			blocks[at], data = data[:16], data[16:]
		}
	}
	return 0, text
}

func doByWords(d api.Disk, command, data string) (api.Disk, string, api.Errno) {
	if code := checkByWords(d); code != api.OK {
		return d, "", code
	}
	blocks, text := slices.Clone(d.Blocks), ""
	sense := formByWords(command)
	if sense == 0 {
		sense, text = doneByWords(blocks, d.Sense, command, data)
	}
	if sense != 0 {
		return api.Disk{Blocks: d.Blocks, Sense: sense}, "", api.ErrCheck
	}
	return api.Disk{Blocks: blocks}, text, api.OK
}

// holdDo holds Do against the words, and tells what it answered.
func holdDo(t *testing.T, d api.Disk, command, data string) (api.Disk, string, api.Errno) {
	t.Helper()
	before := slices.Clone(d.Blocks)
	got, text, code := Do(d, command, data)
	if !slices.Equal(d.Blocks, before) {
		t.Fatalf("Do(%x, %x) changed the disk that was handed in", command, data)
	}
	want, wantText, wantCode := doByWords(d, command, data)
	if code != wantCode || text != wantText || !sameDisk(got, want) {
		t.Fatalf("Do(%d blocks, Sense %d, %x, %d bytes) = Sense %d, %x, %d; want Sense %d, %x, %d", len(d.Blocks), d.Sense, command, len(data), got.Sense, text, code, want.Sense, wantText, wantCode)
	}
	return got, text, code
}

// TestNew: P20.1.
func TestNew(t *testing.T) {
	for blocks := range 65 {
		d, code := New(blocks)
		if blocks == 0 {
			if code != api.ErrArg || d.Blocks != nil || d.Sense != 0 {
				t.Errorf("New(0) = %v, %d", d, code)
			}
			continue
		}
		if code != api.OK || len(d.Blocks) != blocks || d.Sense != 0 || Check(d) != api.OK {
			t.Fatalf("New(%d) = %v, %d", blocks, d, code)
		}
		for at, block := range d.Blocks {
			if block != "\x00\x00\x00\x00\x00\x00\x00\x00\x00\x00\x00\x00\x00\x00\x00\x00" {
				t.Errorf("New(%d): block %d is %x", blocks, at, block)
			}
		}
	}
}

// TestNewOutOfBounds: P20.1.
func TestNewOutOfBounds(t *testing.T) {
	list := slices.Concat(far, []int{0, 65, 66, 127, 128, 129, 255, 256, 257, 320, 1 << 16, 1<<16 + 1, 1<<31 + 1, 1 << 32})
	for _, blocks := range list {
		if d, code := New(blocks); code != api.ErrArg || d.Blocks != nil || d.Sense != 0 {
			t.Errorf("New(%d) = %v, %d", blocks, d, code)
		}
	}
}

// TestNewMemory: P2: a disk is not the one of another call.
func TestNewMemory(t *testing.T) {
	a, _ := New(3)
	a.Blocks[1] = "a"
	_ = append(a.Blocks, "b")
	if b, _ := New(3); Check(b) != api.OK || len(b.Blocks) != 3 {
		t.Error(b)
	}
}

// TestCheckBlocks: P20.1: how many there are, and how long each.
func TestCheckBlocks(t *testing.T) {
	d := dice{1}
	for blocks := range 200 {
		disk := d.thrown(blocks)
		want := api.OK
		if blocks < 1 || blocks > 64 {
			want = api.ErrArg
		}
		if code := Check(disk); code != want {
			t.Errorf("Check of %d blocks = %d", blocks, code)
		}
		for at := range blocks {
			for _, size := range []int{0, 1, 8, 15, 16, 17, 31, 32, 272, 1 << 16, 1<<16 + 16} {
				kept := disk.Blocks[at]
				disk.Blocks[at] = strings.Repeat("a", size)
				if code := Check(disk); code != checkByWords(disk) {
					t.Errorf("Check of %d blocks, of which block %d has %d bytes = %d", blocks, at, size, code)
				}
				disk.Blocks[at] = kept
			}
		}
	}
	if code := Check(api.Disk{}); code != api.ErrArg {
		t.Error(code)
	}
}

// TestCheckSense: P20.1.
func TestCheckSense(t *testing.T) {
	list := slices.Clone(far)
	for sense := range 1000 {
		list = append(list, sense, -sense, sense<<8, sense<<16, sense<<32)
	}
	disk, _ := New(2)
	for _, sense := range list {
		disk.Sense = sense
		want := api.ErrForm
		if sense == 0 || sense == 32 || sense == 33 || sense == 36 {
			want = api.OK
		}
		if code := Check(disk); code != want {
			t.Errorf("Check with Sense %d = %d", sense, code)
		}
	}
}

// TestCheckOrder: ErrArg is told ahead of ErrForm.
func TestCheckOrder(t *testing.T) {
	if code := Check(api.Disk{Sense: 1}); code != api.ErrArg {
		t.Error(code)
	}
	if code := Check(api.Disk{Blocks: make([]string, 65), Sense: 1}); code != api.ErrArg {
		t.Error(code)
	}
	if code := Check(api.Disk{Blocks: make([]string, 64)}); code != api.ErrForm {
		t.Error(code)
	}
}

// TestCheckKeepsHandedIn: P2.
func TestCheckKeepsHandedIn(t *testing.T) {
	disk := (&dice{2}).thrown(5)
	disk.Blocks[4] = "short"
	before := slices.Clone(disk.Blocks)
	if Check(disk); !slices.Equal(disk.Blocks, before) {
		t.Error(disk)
	}
}

// TestMakeOps: P20.2: each first byte, and what is none.
func TestMakeOps(t *testing.T) {
	list := slices.Clone(far)
	for op := range 1 << 12 {
		list = append(list, op, -op)
	}
	for _, op := range list {
		text, code := Make(op, 0x12345678, 0x9abc)
		switch op {
		case 40, 42, 53:
			if want := string([]byte{byte(op)}) + "\x00\x12\x34\x56\x78\x00\x9a\xbc\x00"; text != want || code != api.OK {
				t.Errorf("Make(%d) = %x, %d", op, text, code)
			}
		default:
			if text != "" || code != api.ErrArg {
				t.Errorf("Make(%d) = %x, %d", op, text, code)
			}
		}
	}
}

// numbers are those from 0 to the most whose bits tell where each of them goes, with both ends.
func numbers(most int) []int {
	list := []int{0, most, most - 1}
	for bit := 1; bit <= most; bit <<= 1 {
		list = append(list, bit, bit-1, bit+1, most-bit, most&^bit)
	}
	return slices.DeleteFunc(list, func(n int) bool { return n > most })
}

// TestMakeNumbers: P20.2: all counts, and places with each bit.
func TestMakeNumbers(t *testing.T) {
	for _, op := range []int{40, 42, 53} {
		for _, lba := range numbers(1<<32 - 1) {
			for _, count := range numbers(1<<16 - 1) {
				text, code := Make(op, lba, count)
				if text != about(byte(op), uint32(lba), uint16(count)) || code != api.OK {
					t.Fatalf("Make(%d, %d, %d) = %x, %d", op, lba, count, text, code)
				}
			}
		}
		for count := range 1 << 16 {
			if text, code := Make(op, 3, count); text != about(byte(op), 3, uint16(count)) || code != api.OK {
				t.Fatalf("Make(%d, 3, %d) = %x, %d", op, count, text, code)
			}
		}
	}
}

// TestMakeOutOfBounds: P20.2.
func TestMakeOutOfBounds(t *testing.T) {
	for _, op := range []int{40, 42, 53} {
		for _, lba := range append([]int{1 << 32}, far...) {
			for _, count := range []int{0, 1, 65535, -1, 65536} {
				if text, code := Make(op, lba, count); text != "" || code != api.ErrArg {
					t.Errorf("Make(%d, %d, %d) = %x, %d", op, lba, count, text, code)
				}
			}
		}
		for _, count := range append([]int{65536, 65537, 1 << 17, 1 << 24, 1 << 32, 1<<32 - 1}, far...) {
			for _, lba := range []int{0, 1, 1<<32 - 1, -1, 1 << 32} {
				if text, code := Make(op, lba, count); text != "" || code != api.ErrArg {
					t.Errorf("Make(%d, %d, %d) = %x, %d", op, lba, count, text, code)
				}
			}
		}
	}
}

// TestDoExample is the example of the document.
func TestDoExample(t *testing.T) {
	disk, _ := New(4)
	got, text, code := Do(disk, "\x25\x00\x00\x00\x00\x00\x00\x00\x00\x00", "")
	if text != "\x00\x00\x00\x03\x00\x00\x00\x10" || code != api.OK || !sameDisk(got, disk) {
		t.Errorf("%v %x %d", got, text, code)
	}
}

// TestDoFirstBytes: P20.3: each first byte, with so many bytes behind it.
func TestDoFirstBytes(t *testing.T) {
	d := dice{3}
	for op := range 256 {
		for size := 1; size <= 40; size++ {
			zeros := string([]byte{byte(op)}) + strings.Repeat("\x00", size-1)
			_, _, code := holdDo(t, d.thrown(3), zeros, "")
			r, known := table[byte(op)]
			if good := known && size == r.size && op != 26; good != (code == api.OK) {
				t.Errorf("first byte %d of %d: %d", op, size, code)
			}
			holdDo(t, d.thrown(3), zeros[:1]+d.text(size-1), d.text(16))
		}
	}
	got, text, code := holdDo(t, d.thrown(3), "", "")
	if got.Sense != 32 || text != "" || code != api.ErrCheck {
		t.Error(got, text, code)
	}
}

// TestDoSizes: P20.3: a command that is a byte too short, or too long, though it is in its form else.
func TestDoSizes(t *testing.T) {
	d := dice{4}
	for _, command := range rights() {
		holdOK(t, d.thrown(3), command, "")
		for size := 1; size < len(command); size++ {
			holdSense(t, d.thrown(3), command[:size], "", 36)
		}
		for more := 1; more < 20; more++ {
			holdSense(t, d.thrown(3), command+strings.Repeat("\x00", more), "", 36)
		}
		holdSense(t, d.thrown(3), command+strings.Repeat("\x00", 256), "", 36)
		holdSense(t, d.thrown(3), command+strings.Repeat("\x00", 1<<16), "", 36)
	}
}

func holdOK(t *testing.T, d api.Disk, command, data string) {
	t.Helper()
	if got, _, code := holdDo(t, d, command, data); code != api.OK || got.Sense != 0 {
		t.Errorf("Do(%x) = Sense %d, %d", command, got.Sense, code)
	}
}

func holdSense(t *testing.T, d api.Disk, command, data string, sense int) {
	t.Helper()
	if got, text, code := holdDo(t, d, command, data); code != api.ErrCheck || got.Sense != sense || text != "" {
		t.Errorf("Do(%x) = Sense %d, %x, %d", command, got.Sense, text, code)
	}
}

// TestDoBytes: P20.3: each byte of each command is each number, and two of them at once.
func TestDoBytes(t *testing.T) {
	d := dice{5}
	disk := d.thrown(64)
	for _, command := range rights() {
		for at := range command {
			for b := range 256 {
				one := with(command, at, byte(b))
				holdDo(t, disk, one, "")
				for other := range command {
					holdDo(t, disk, with(one, other, byte(1<<d.below(8))), "")
				}
			}
		}
	}
}

// TestDoUnnamed: P20.3: a byte that isn't named, and isn't 0, whatever the others are.
func TestDoUnnamed(t *testing.T) {
	for _, c := range []struct {
		command string
		unnamed []int
	}{
		{rights()[0], []int{1, 2, 3, 4, 5}},
		{rights()[1], []int{1, 2, 3, 5}},
		{rights()[2], []int{1, 2, 3, 5}},
		{rights()[3], []int{1, 3, 5}},
		{rights()[4], []int{1, 2, 3, 4, 5, 6, 7, 8, 9}},
		{about(40, 0, 3), []int{1, 6, 9}},
		{about(42, 0, 0), []int{1, 6, 9}},
		{about(53, 0, 3), []int{1, 6, 9}},
	} {
		disk := (&dice{6}).thrown(3)
		holdOK(t, disk, c.command, "")
		for _, at := range c.unnamed {
			for b := 1; b < 256; b++ {
				holdSense(t, disk, with(c.command, at, byte(b)), "", 36)
			}
		}
	}
}

// TestDoBeginnings: P20.3: the first N bytes of SENSE, INQUIRY and MODE, or all that there are.
func TestDoBeginnings(t *testing.T) {
	inquiry := "\x00\x80\x04\x02\x1f\x00\x00\x00plugtreedisk            1   "
	if len(inquiry) != 36 {
		t.Fatal(len(inquiry))
	}
	for _, sense := range senses {
		key := "\x05"
		if sense == 0 {
			key = "\x00"
		}
		whole := map[string]string{
			"\x03\x00\x00\x00": "\x70\x00" + key + "\x00\x00\x00\x00\x0a\x00\x00\x00\x00" + string([]byte{byte(sense)}) + "\x00\x00\x00\x00\x00",
			"\x12\x00\x00\x00": inquiry,
			"\x1a\x00\x3f\x00": "\x03\x00\x00\x00",
		}
		for head, all := range whole {
			for n := range 256 {
				disk := (&dice{7}).thrown(3)
				disk.Sense = sense
				got, text, code := holdDo(t, disk, head+string([]byte{byte(n), 0}), "")
				if want := all[:min(n, len(all))]; text != want || code != api.OK || got.Sense != 0 {
					t.Errorf("Sense %d: %x of %d = %x, Sense %d, %d", sense, head, n, text, got.Sense, code)
				}
			}
		}
	}
}

// TestDoMode: P20.3: MODE has one page.
func TestDoMode(t *testing.T) {
	for page := range 256 {
		command := "\x1a\x00" + string([]byte{byte(page)}) + "\x00\x04\x00"
		disk := (&dice{8}).thrown(2)
		if page == 63 {
			holdOK(t, disk, command, "")
		} else {
			holdSense(t, disk, command, "", 36)
		}
	}
}

// TestDoCapacity: P20.3: for each number of blocks.
func TestDoCapacity(t *testing.T) {
	d := dice{9}
	for blocks := 1; blocks <= 64; blocks++ {
		disk := d.thrown(blocks)
		_, text, _ := holdDo(t, disk, rights()[4], "")
		if want := "\x00\x00\x00" + string([]byte{byte(blocks - 1)}) + "\x00\x00\x00\x10"; text != want {
			t.Errorf("%d blocks: %x", blocks, text)
		}
	}
}

// TestDoPlaces: P20.3: all places and counts around the end of a disk, of each size.
func TestDoPlaces(t *testing.T) {
	d := dice{10}
	data := d.text(16 * 70)
	for blocks := 1; blocks <= 64; blocks++ {
		disk := d.thrown(blocks)
		for lba := range blocks + 3 {
			for count := range blocks + 3 - lba + 2 {
				holdDo(t, disk, about(40, uint32(lba), uint16(count)), "")
				holdDo(t, disk, about(42, uint32(lba), uint16(count)), data[:16*count])
				holdDo(t, disk, about(53, uint32(lba), uint16(count)), "")
			}
		}
	}
}

// TestDoFarPlaces: P20.3: places and counts whose bits are each looked at, and that together are more than four bytes.
func TestDoFarPlaces(t *testing.T) {
	disk := (&dice{11}).thrown(64)
	data := strings.Repeat("a", 16)
	for _, op := range []byte{40, 42, 53} {
		for _, lba := range numbers(1<<32 - 1) {
			for _, count := range numbers(1<<16 - 1) {
				got, _, code := holdDo(t, disk, about(op, uint32(lba), uint16(count)), data)
				if lba+count > 64 && (got.Sense != 33 || code != api.ErrCheck) {
					t.Fatalf("first byte %d, %d blocks from %d on: Sense %d, %d", op, count, lba, got.Sense, code)
				}
			}
		}
	}
}

// TestDoNoBlock: P20.3: no block at all, up to the end of the disk, and behind it.
func TestDoNoBlock(t *testing.T) {
	for _, op := range []byte{40, 42, 53} {
		disk := (&dice{12}).thrown(4)
		for lba := range 5 {
			got, text, code := holdDo(t, disk, about(op, uint32(lba), 0), "")
			if text != "" || code != api.OK || got.Sense != 0 || !slices.Equal(got.Blocks, disk.Blocks) {
				t.Errorf("first byte %d, from %d on: %v, %x, %d", op, lba, got, text, code)
			}
		}
		holdSense(t, disk, about(op, 5, 0), "", 33)
	}
}

// TestDoWriteSizes: P20.3: data of each size, for each count.
func TestDoWriteSizes(t *testing.T) {
	d := dice{13}
	disk := d.thrown(5)
	data := d.text(16 * 8)
	for count := range 5 {
		for size := range len(data) + 1 {
			command := about(42, 1, uint16(count))
			if size == 16*count {
				holdOK(t, disk, command, data[:size])
			} else {
				holdSense(t, disk, command, data[:size], 36)
			}
		}
	}
	// As many bytes as a number of fewer bits has for it.
	holdSense(t, disk, about(42, 1, 1), strings.Repeat("a", 16+1<<16), 36)
	holdSense(t, disk, about(42, 1, 0), strings.Repeat("a", 1<<16), 36)
	holdSense(t, disk, about(42, 1, 0), strings.Repeat("a", 256), 36)
}

// TestDoWrite: P20.3: the blocks have the bytes of data, in order, and the others what they had.
func TestDoWrite(t *testing.T) {
	d := dice{14}
	for blocks := 1; blocks <= 20; blocks++ {
		disk := d.thrown(blocks)
		for lba := range blocks {
			for count := range blocks - lba + 1 {
				data := d.text(16 * count)
				got, text, code := Do(disk, about(42, uint32(lba), uint16(count)), data)
				before, behind := strings.Join(disk.Blocks[:lba], ""), strings.Join(disk.Blocks[lba+count:], "")
				if text != "" || code != api.OK || Check(got) != api.OK || len(got.Blocks) != blocks || strings.Join(got.Blocks, "") != before+data+behind {
					t.Fatalf("%d blocks, %d from %d on: %v, %x, %d", blocks, count, lba, got, text, code)
				}
				if _, text, _ := Do(got, about(40, uint32(lba), uint16(count)), ""); text != data {
					t.Fatalf("%d blocks, %d from %d on: read %x, written %x", blocks, count, lba, text, data)
				}
			}
		}
	}
}

// TestDoData: P20.3: no other command looks at data.
func TestDoData(t *testing.T) {
	d := dice{15}
	for _, command := range rights() {
		if command[0] == 42 {
			continue
		}
		for _, size := range []int{0, 1, 15, 16, 17, 32, 33, 4096, 1 << 16} {
			disk := d.thrown(6)
			holdOK(t, disk, command, d.text(size))
			holdSense(t, disk, with(command, 1, 1), d.text(size), 36)
			holdSense(t, disk, with(command, 0, 1), d.text(size), 32)
		}
	}
}

// TestDoSense: P20.3: one that fails leaves its Sense, one that is done leaves 0, whatever the Sense was.
func TestDoSense(t *testing.T) {
	d := dice{16}
	for _, sense := range senses {
		for _, command := range rights() {
			disk := d.thrown(4)
			disk.Sense = sense
			holdOK(t, disk, command, "")
			holdSense(t, disk, "", "", 32)
			holdSense(t, disk, with(command, 0, 7), "", 32)
			holdSense(t, disk, with(command, 1, 7), "", 36)
			holdSense(t, disk, about(40, 4, 1), "", 33)
			holdSense(t, disk, about(42, 3, 1), "", 36)
		}
	}
}

// TestDoAskedWhy: P20.3: SENSE tells why the command ahead of it wasn't done, once.
func TestDoAskedWhy(t *testing.T) {
	why := "\x03\x00\x00\x00\xff\x00"
	for _, c := range []struct {
		command    string
		key, sense byte
	}{
		{"\x99", 5, 32},
		{about(53, 3, 2), 5, 33},
		{"\x00", 5, 36},
		// Why it can't be asked why is asked for next.
		{why + "\x00", 5, 36},
		{rights()[0], 0, 0},
		{rights()[1], 0, 0},
	} {
		disk := (&dice{17}).thrown(4)
		disk, _, _ = Do(disk, c.command, "")
		disk, text, code := Do(disk, why, "")
		if len(text) != 18 || text[2] != c.key || text[12] != c.sense || code != api.OK {
			t.Errorf("%x: %x, %d", c.command, text, code)
		}
		if disk, text, _ = Do(disk, why, ""); disk.Sense != 0 || text[2] != 0 || text[12] != 0 {
			t.Errorf("%x, asked twice: %x", c.command, text)
		}
	}
}

// TestDoOrder: P20.3: which Sense is told, where several apply.
func TestDoOrder(t *testing.T) {
	disk := (&dice{18}).thrown(4)
	// 32 ahead of 36.
	holdSense(t, disk, "\x29", "", 32)
	holdSense(t, disk, with(about(41, 9, 9), 1, 1), "", 32)
	// 36 ahead of 33.
	for _, op := range []byte{40, 42, 53} {
		holdSense(t, disk, about(op, 9, 9)+"\x00", "", 36)
		holdSense(t, disk, with(about(op, 9, 9), 9, 1), "", 36)
	}
	// 33 ahead of 36 of data.
	holdSense(t, disk, about(42, 4, 1), "a", 33)
	holdSense(t, disk, about(42, 4, 1), strings.Repeat("a", 16), 33)
	holdSense(t, disk, about(42, 3, 1), "a", 36)
}

// TestDoWrongDisks: P20.3: Check's error is told ahead of all, with the disk as it was handed in.
func TestDoWrongDisks(t *testing.T) {
	d := dice{19}
	short, long, strange, many := d.thrown(4), d.thrown(4), d.thrown(4), d.thrown(65)
	short.Blocks[3], long.Blocks[0], strange.Sense, many.Sense = "short", strings.Repeat("a", 17), 34, 99
	for _, c := range []struct {
		disk api.Disk
		code api.Errno
	}{
		{api.Disk{}, api.ErrArg},
		{api.Disk{Sense: 36}, api.ErrArg},
		{api.Disk{Sense: -5}, api.ErrArg},
		{many, api.ErrArg},
		{d.thrown(200), api.ErrArg},
		{short, api.ErrForm},
		{long, api.ErrForm},
		{strange, api.ErrForm},
		{api.Disk{Blocks: make([]string, 3), Sense: math.MinInt}, api.ErrForm},
	} {
		for _, command := range append(rights(), "", "\x01", "\x00", about(40, 100, 1), about(42, 0, 1)) {
			for _, data := range []string{"", strings.Repeat("b", 16)} {
				got, text, code := holdDo(t, c.disk, command, data)
				if code != c.code || text != "" || !sameDisk(got, c.disk) {
					t.Errorf("Do(%v, %x) = %v, %x, %d", c.disk, command, got, text, code)
				}
			}
		}
	}
}

// TestDoMemory: P2: the disk that is answered shares nothing with the one that was handed in, nor is the room behind that used.
func TestDoMemory(t *testing.T) {
	d := dice{20}
	wrong := d.thrown(4)
	wrong.Blocks[2] = "wrong"
	for _, disk := range []api.Disk{d.thrown(4), wrong, d.thrown(64), d.thrown(65), d.thrown(90)} {
		for _, command := range append(rights(), "", "\x01", about(40, 9, 99), about(42, 0, 1), about(42, 2, 2)) {
			for _, data := range []string{"", strings.Repeat("b", 16), strings.Repeat("c", 32)} {
				room := append(slices.Clone(disk.Blocks), "room", "room")
				handed := api.Disk{Blocks: room[:len(disk.Blocks)], Sense: disk.Sense}
				got, _, _ := Do(handed, command, data)
				for i := range got.Blocks {
					got.Blocks[i] = "other"
				}
				_ = append(got.Blocks, "other")
				if !slices.Equal(room[:len(disk.Blocks)], disk.Blocks) || room[len(disk.Blocks)] != "room" || room[len(disk.Blocks)+1] != "room" {
					t.Fatalf("Do(%x) shares: %q", command, room)
				}
			}
		}
	}
}

// TestDoKeepsNothing: P2: the same is answered again, whatever was done between.
func TestDoKeepsNothing(t *testing.T) {
	d := dice{21}
	disk := d.thrown(8)
	for _, command := range rights() {
		first, firstText, firstCode := Do(disk, command, "")
		for range 20 {
			Do(d.thrown(8), about(42, 0, 8), d.text(128))
			Do(disk, "\x99", "")
		}
		if again, text, code := Do(disk, command, ""); text != firstText || code != firstCode || !sameDisk(again, first) {
			t.Errorf("Do(%x) = %v, %x, %d; ahead of it %v, %x, %d", command, again, text, code, first, firstText, firstCode)
		}
	}
}

// TestDoWalks holds disks through many commands against the words, most of them near to right ones.
func TestDoWalks(t *testing.T) {
	d := dice{22}
	for range 300 {
		disk := d.thrown(1 + d.below(64))
		for range 100 {
			command, data := d.command(len(disk.Blocks))
			disk, _, _ = holdDo(t, disk, command, data)
		}
	}
}

// command is one that is thrown for a disk of so many blocks, with its data.
func (d *dice) command(blocks int) (string, string) {
	list := rights()
	command, data := list[d.below(len(list))], ""
	if len(command) == 10 && command[0] != 37 {
		lba := d.below(blocks + 1)
		count := d.below(min(blocks-lba, 5) + 1)
		command, data = about(command[0], uint32(lba), uint16(count)), d.text(16*count)
	}
	switch d.below(8) {
	case 0:
		command = with(command, d.below(len(command)), byte(d.below(256)))
	case 1:
		command = command[:d.below(len(command))]
	case 2:
		command += d.text(1 + d.below(3))
	case 3:
		data += d.text(d.below(20))
	}
	return command, data
}

// TestMadeIsDone: what Make makes is done, and reads what was written last.
func TestMadeIsDone(t *testing.T) {
	d := dice{23}
	disk, _ := New(64)
	model := strings.Repeat("\x00", 16*64)
	for range 3000 {
		lba := d.below(65)
		count := d.below(65 - lba)
		data := d.text(16 * count)
		write, _ := Make(42, lba, count)
		var code api.Errno
		if disk, _, code = Do(disk, write, data); code != api.OK {
			t.Fatal(code)
		}
		model = model[:16*lba] + data + model[16*(lba+count):]
		// What fails changes no block.
		disk, _, _ = Do(disk, write, data+"a")
		lba = d.below(65)
		count = d.below(65 - lba)
		read, _ := Make(40, lba, count)
		var text string
		if disk, text, code = Do(disk, read, ""); code != api.OK || text != model[16*lba:16*(lba+count)] {
			t.Fatalf("%d from %d on: %x, %d", count, lba, text, code)
		}
	}
	if strings.Join(disk.Blocks, "") != model {
		t.Error("the disk isn't what was written")
	}
}

// TestAsked: a WRITE in its form asks for 16 bytes for each block, wherever these are, and nothing else asks for any.
func TestAsked(t *testing.T) {
	for count := range 1 << 16 {
		for _, op := range []byte{40, 42, 53} {
			want := 0
			if op == 42 {
				want = 16 * count
			}
			if size := Asked(about(op, uint32(count)*65537, uint16(count))); size != want {
				t.Fatalf("first byte %d, %d blocks: %d", op, count, size)
			}
		}
	}
	for op := range 256 {
		for size := range 20 {
			command := with(about(42, 1, 2), 0, byte(op)) + "\x00\x00\x00\x00\x00\x00\x00\x00\x00\x00"
			want := 0
			if op == 42 && size == 10 {
				want = 32
			}
			if got := Asked(command[:size]); got != want {
				t.Errorf("Asked(%x) = %d", command[:size], got)
			}
		}
	}
	for _, at := range []int{1, 6, 9} {
		if size := Asked(with(about(42, 1, 2), at, 1)); size != 0 {
			t.Errorf("a WRITE with a slip at %d: %d", at, size)
		}
	}
}

// TestAskedIsRight: a WRITE that can be done is done with just so many bytes as it asks for.
func TestAskedIsRight(t *testing.T) {
	d := dice{24}
	disk := d.thrown(64)
	for lba := range 65 {
		for count := range 65 - lba {
			command := about(42, uint32(lba), uint16(count))
			holdOK(t, disk, command, d.text(Asked(command)))
			holdSense(t, disk, command, d.text(Asked(command)+1), 36)
		}
	}
}

// TestFailure: a failure has its Sense, also as a text.
func TestFailure(t *testing.T) {
	var err error = failure{33}
	if f, failed := err.(failure); !failed || f.sense != 33 || err.Error() != "sense 33" {
		t.Error(err)
	}
}
