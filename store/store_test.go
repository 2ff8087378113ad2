package store

import (
	"encoding/binary"
	"fmt"
	"math"
	"slices"
	"strings"
	"testing"

	"plugtree/api"
	"plugtree/bulk"
	"plugtree/scsi"
)

const (
	most = 1<<32 - 1

	good  = api.FGood
	lost  = api.FLost
	deaf  = api.FDeaf
	busy  = api.FBusy
	stall = api.FStall
)

// far are numbers that are out of all bounds, many of them such that their lower bits are within, or that two of them together are.
var far = []int{-1, -2, -3, -8, -16, -64, -255, -256, -65536, math.MinInt32, -1 << 32, -1<<32 + 1, 1 << 32, 1<<32 + 1, 1<<32 + 2, 1<<32 + 16, 1<<33 + 2, 1 << 40, 1<<40 + 1, 1 << 48, 1 << 62, 1<<62 + 1, math.MinInt, math.MinInt + 1, math.MinInt + 2, math.MinInt + 16, math.MaxInt, math.MaxInt - 1, math.MaxInt - 8}

// dice are numbers that are the same in each run.
type dice struct{ n uint64 }

func (d *dice) below(most int) int {
	d.n = d.n*6364136223846793005 + 1442695040888963407
	return int(d.n>>33) % most
}

func (d *dice) text(size int) string {
	text := make([]byte, size)
	for i := range text {
		text[i] = byte(d.below(256))
	}
	return string(text)
}

// link is a link with which nothing is wrong, to a disk no two blocks of which are the same.
func (d *dice) link(blocks int) api.Link {
	l := api.Link{Disk: api.Disk{Sense: []int{0, 32, 33, 36}[d.below(4)]}, Tag: d.below(1 << 31)}
	for at := range blocks {
		l.Disk.Blocks = append(l.Disk.Blocks, string([]byte{byte(at)})+d.text(15))
	}
	return l
}

// fates are so many, of which so many of a hundred go well.
func (d *dice) fates(size, well int) []int {
	list := make([]int, size)
	for i := range list {
		list[i] = good
		if d.below(100) >= well {
			// The one that ends a transfer at once comes less often than the others.
			list[i] = []int{lost, deaf, busy, lost, deaf, busy, lost, deaf, stall}[d.below(9)]
		}
	}
	return list
}

// rows are all rows of fates of up to that size.
func rows(size int) [][]int {
	list := [][]int{nil}
	for begin := 0; size > 0; size-- {
		end := len(list)
		for _, row := range list[begin:end] {
			for fate := good; fate <= stall; fate++ {
				list = append(list, append(slices.Clone(row), fate))
			}
		}
		begin = end
	}
	return list
}

func goods(size int) []int { return slices.Repeat([]int{good}, size) }

// about is a command that is about blocks, written out.
func about(op byte, lba uint32, count uint16) string {
	text := []byte{op, 0}
	text = binary.BigEndian.AppendUint32(text, lba)
	text = append(text, 0)
	text = binary.BigEndian.AppendUint16(text, count)
	return string(append(text, 0))
}

const (
	ready    = "\x00\x00\x00\x00\x00\x00"
	asksWhy  = "\x03\x00\x00\x00\xff\x00"
	inquiry  = "\x12\x00\x00\x00\x24\x00"
	noAnswer = "\x12\x00\x00\x00\x00\x00"
	capacity = "\x25\x00\x00\x00\x00\x00\x00\x00\x00\x00"
	unknown  = "\x99\x00\x00\x00\x00\x00"
	mode     = "\x1a\x00\x3f\x00\x04\x00"
)

// told is all that a call tells.
type told struct {
	link api.Link
	text string
	out  api.Outcome
}

func (a told) String() string {
	return fmt.Sprintf("blocks %q, Sense %d, Tag %d, text %q, outcome %+v", a.link.Disk.Blocks, a.link.Disk.Sense, a.link.Tag, a.text, a.out)
}

func same(a, b told) bool {
	return slices.Equal(a.link.Disk.Blocks, b.link.Disk.Blocks) && a.link.Disk.Sense == b.link.Disk.Sense && a.link.Tag == b.link.Tag && a.text == b.text && a.out == b.out
}

func cloned(l api.Link) api.Link {
	l.Disk.Blocks = slices.Clone(l.Disk.Blocks)
	return l
}

func cycle(l api.Link, w api.Wrap, data string, fates []int) told {
	l, in, o := Cycle(l, w, data, fates)
	return told{l, in, o}
}

func read(l api.Link, lba, count int, fates []int) told {
	l, text, o := Read(l, lba, count, fates)
	return told{l, text, o}
}

func write(l api.Link, lba int, data string, fates []int) told {
	l, o := Write(l, lba, data, fates)
	return told{link: l, out: o}
}

// What follows, up to the tests, is what the chapter says, word by word, without a pipe.

// tape is a row of fates, as far as it was used.
type tape struct {
	fates []int
	used  int
}

// carry is how many of so many bytes arrived, and how that ended.
func (p *tape) carry(size int) (int, api.Errno) {
	heard, there, strikes := 0, 0, 0
	for pieces := size/64 + 1; heard < pieces; {
		if p.used == len(p.fates) {
			return min(64*there, size), api.ErrTime
		}
		fate := p.fates[p.used]
		p.used++
		switch fate {
		case good:
			there, heard, strikes = heard+1, heard+1, 0
		case deaf:
			there, strikes = heard+1, strikes+1
		case lost:
			strikes++
		case stall:
			return min(64*there, size), api.ErrStall
		}
		if strikes == 3 {
			return min(64*there, size), api.ErrBus
		}
	}
	return size, api.OK
}

func linkByWords(l api.Link, fates []int) api.Errno {
	if code := scsi.Check(l.Disk); code != api.OK {
		return code
	}
	if l.Tag < 0 || l.Tag > most {
		return api.ErrArg
	}
	if len(fates) > 1000 {
		return api.ErrLarge
	}
	for _, fate := range fates {
		if !slices.Contains([]int{good, lost, deaf, busy, stall}, fate) {
			return api.ErrArg
		}
	}
	return api.OK
}

func refusalByWords(l api.Link, w api.Wrap, data string, fates []int) api.Errno {
	if code := linkByWords(l, fates); code != api.OK {
		return code
	}
	if w.Length < 0 || w.Length > most || w.Unit < 0 || w.Unit > 15 || len(w.Command) < 1 || len(w.Command) > 16 {
		return api.ErrArg
	}
	if w.In && data != "" || !w.In && w.Length != len(data) {
		return api.ErrArg
	}
	if len(data) > 4096 {
		return api.ErrLarge
	}
	return api.OK
}

func wrapByWords(w api.Wrap) string {
	text := make([]byte, 31)
	copy(text, "USBC")
	binary.LittleEndian.PutUint32(text[4:], uint32(w.Tag))
	binary.LittleEndian.PutUint32(text[8:], uint32(w.Length))
	if w.In {
		text[12] = 128
	}
	text[13], text[14] = byte(w.Unit), byte(len(w.Command))
	copy(text[15:], w.Command)
	return string(text)
}

func cycleByWords(l api.Link, w api.Wrap, data string, fates []int) told {
	if code := refusalByWords(l, w, data, fates); code != api.OK {
		return told{link: l, out: api.Outcome{Code: code}}
	}
	w.Tag = l.Tag
	l.Tag = (l.Tag + 1) % (1 << 32)
	p := tape{fates: fates}
	end := func(in string, code api.Errno) told {
		return told{l, in, api.Outcome{Code: code, Used: p.used}}
	}
	if _, code := p.carry(31); code != api.OK {
		return end("", code)
	}
	in, status, served := "", "", api.OK
	if !w.In && data != "" {
		size, code := p.carry(len(data))
		if size == len(data) {
			l.Disk, _, status, served = bulk.Serve(l.Disk, wrapByWords(w), data)
		}
		if code != api.OK {
			return end("", code)
		}
	} else {
		l.Disk, in, status, served = bulk.Serve(l.Disk, wrapByWords(w), "")
	}
	if served != api.OK {
		return end("", served)
	}
	if w.In && w.Length != 0 {
		if _, code := p.carry(len(in)); code != api.OK {
			return end("", code)
		}
	}
	if _, code := p.carry(13); code != api.OK {
		return end("", code)
	}
	return end(in, []api.Errno{api.OK, api.ErrCheck, api.ErrForm}[status[12]])
}

// runByWords is what is read or written, without bulk or scsi: blocks change as soon as all data of a piece is there.
func runByWords(l api.Link, lba, count int, data string, isRead bool, fates []int) told {
	code := linkByWords(l, fates)
	blocks := len(l.Disk.Blocks)
	switch {
	case code != api.OK:
	case lba < 0 || count < 0:
		code = api.ErrArg
	case lba > blocks || count > blocks-lba:
		code = api.ErrNone
	}
	if code != api.OK {
		return told{link: l, out: api.Outcome{Code: code}}
	}
	l = cloned(l)
	p := tape{fates: fates}
	text := ""
	for at := 0; at < count; at += 4 {
		run := min(4, count-at)
		place := l.Disk.Blocks[lba+at : lba+at+run]
		for times := 1; ; times++ {
			l.Tag = (l.Tag + 1) % (1 << 32)
			_, code = p.carry(31)
			if code == api.OK {
				if isRead {
					l.Disk.Sense = 0
				}
				arrived := 0
				arrived, code = p.carry(16 * run)
				if !isRead && arrived == 16*run {
					l.Disk.Sense = 0
					for i := range place {
						place[i] = data[16*(at+i) : 16*(at+i+1)]
					}
				}
			}
			if code == api.OK {
				_, code = p.carry(13)
			}
			if code == api.OK || code == api.ErrTime || times == 3 {
				break
			}
		}
		if code != api.OK {
			return told{l, text, api.Outcome{Code: code, Done: at, Used: p.used}}
		}
		if isRead {
			text += strings.Join(place, "")
		}
	}
	return told{l, text, api.Outcome{Done: count, Used: p.used}}
}

func writeByWords(l api.Link, lba int, data string, fates []int) told {
	count := -1
	if len(data)%16 == 0 {
		count = len(data) / 16
	}
	return runByWords(l, lba, count, data, false, fates)
}

// hold holds what was told against the words, and what was handed in against what it was.
func hold(t *testing.T, name string, l api.Link, fates []int, call, words func(api.Link, []int) told) told {
	t.Helper()
	before, fatesBefore := cloned(l), slices.Clone(fates)
	got := call(l, fates)
	if !slices.Equal(l.Disk.Blocks, before.Disk.Blocks) || !slices.Equal(fates, fatesBefore) {
		t.Fatalf("%s: what was handed in was changed", name)
	}
	if want := words(before, fatesBefore); !same(got, want) {
		t.Fatalf("%s of a disk of %d blocks, Sense %d, Tag %d, with the fates %v: %v; want %v", name, len(l.Disk.Blocks), l.Disk.Sense, l.Tag, fates, got, want)
	}
	return got
}

func holdCycle(t *testing.T, l api.Link, w api.Wrap, data string, fates []int) told {
	t.Helper()
	return hold(t, "Cycle", l, fates,
		func(l api.Link, fates []int) told { return cycle(l, w, data, fates) },
		func(l api.Link, fates []int) told { return cycleByWords(l, w, data, fates) })
}

func holdRead(t *testing.T, l api.Link, lba, count int, fates []int) told {
	t.Helper()
	return hold(t, "Read", l, fates,
		func(l api.Link, fates []int) told { return read(l, lba, count, fates) },
		func(l api.Link, fates []int) told { return runByWords(l, lba, count, "", true, fates) })
}

func holdWrite(t *testing.T, l api.Link, lba int, data string, fates []int) told {
	t.Helper()
	return hold(t, "Write", l, fates,
		func(l api.Link, fates []int) told { return write(l, lba, data, fates) },
		func(l api.Link, fates []int) told { return writeByWords(l, lba, data, fates) })
}

// holdRefused asks for the link as it was handed in, and an outcome with that code alone.
func holdRefused(t *testing.T, name string, got told, l api.Link, code api.Errno) {
	t.Helper()
	if want := (told{link: l, out: api.Outcome{Code: code}}); !same(got, want) {
		t.Errorf("%s: %v; want %v", name, got, want)
	}
}

// TestNew: a link with scsi.New's disk and Tag 0, or its error.
func TestNew(t *testing.T) {
	for blocks := 1; blocks <= 64; blocks++ {
		l, code := New(blocks)
		if code != api.OK || l.Tag != 0 || l.Disk.Sense != 0 || !slices.Equal(l.Disk.Blocks, slices.Repeat([]string{strings.Repeat("\x00", 16)}, blocks)) {
			t.Errorf("New(%d) = %v, %d", blocks, l, code)
		}
	}
	for _, blocks := range append([]int{0, 65, 66, 128, 257, 1<<32 + 8}, far...) {
		if l, code := New(blocks); code != api.ErrArg || l.Disk.Blocks != nil || l.Disk.Sense != 0 || l.Tag != 0 {
			t.Errorf("New(%d) = %v, %d", blocks, l, code)
		}
	}
}

// TestNewMemory: P2: the links of two calls share nothing.
func TestNewMemory(t *testing.T) {
	l, _ := New(2)
	l.Disk.Blocks[1] = "other"
	if other, _ := New(2); other.Disk.Blocks[1] != strings.Repeat("\x00", 16) {
		t.Error(other)
	}
}

// slip is something that is wrong with what Cycle is handed, and what it tells of it.
type slip struct {
	name string
	make func(l *api.Link, w *api.Wrap, data *string, fates *[]int)
	code api.Errno
}

func linkSlips() []slip {
	disk := func(name string, change func(*api.Disk), code api.Errno) slip {
		return slip{name, func(l *api.Link, _ *api.Wrap, _ *string, _ *[]int) { change(&l.Disk) }, code}
	}
	list := []slip{
		disk("no block", func(d *api.Disk) { d.Blocks = nil }, api.ErrArg),
		disk("65 blocks", func(d *api.Disk) { d.Blocks = slices.Repeat([]string{strings.Repeat("a", 16)}, 65) }, api.ErrArg),
		disk("a short block", func(d *api.Disk) { d.Blocks[len(d.Blocks)/2] = strings.Repeat("a", 15) }, api.ErrForm),
		disk("a long block", func(d *api.Disk) { d.Blocks[len(d.Blocks)/2] = strings.Repeat("a", 17) }, api.ErrForm),
		disk("no Sense", func(d *api.Disk) { d.Sense = 34 }, api.ErrForm),
	}
	for _, tag := range far {
		list = append(list, slip{"a Tag", func(l *api.Link, _ *api.Wrap, _ *string, _ *[]int) { l.Tag = tag }, api.ErrArg})
	}
	for _, size := range []int{1001, 1002, 1256, 2000, 1 << 16} {
		list = append(list, slip{"many fates", func(_ *api.Link, _ *api.Wrap, _ *string, fates *[]int) {
			*fates = slices.Repeat([]int{good}, size)
		}, api.ErrLarge})
		list = append(list, slip{"many fates, some none", func(_ *api.Link, _ *api.Wrap, _ *string, fates *[]int) {
			*fates = append([]int{0}, slices.Repeat([]int{6}, size)...)
		}, api.ErrLarge})
	}
	for _, none := range append([]int{0, 6, 7, 255, 256, 257, 1<<32 + 1}, far...) {
		list = append(list, slip{"a fate that is none", func(_ *api.Link, _ *api.Wrap, _ *string, fates *[]int) {
			for at := range *fates {
				(*fates)[at] = good
			}
			(*fates)[len(*fates)-1] = none
		}, api.ErrArg})
	}
	return list
}

func cycleSlips() []slip {
	list := linkSlips()
	wrap := func(name string, change func(*api.Wrap)) {
		list = append(list, slip{name, func(_ *api.Link, w *api.Wrap, _ *string, _ *[]int) { change(w) }, api.ErrArg})
	}
	for _, n := range far {
		wrap("a Length", func(w *api.Wrap) { w.Length = n })
		wrap("a Unit", func(w *api.Wrap) { w.Unit = n })
	}
	for _, n := range []int{16, 17, 255, 256, 1<<32 + 1} {
		wrap("a Unit", func(w *api.Wrap) { w.Unit = n })
	}
	for _, size := range []int{0, 17, 18, 256, 257} {
		wrap("a Command", func(w *api.Wrap) { w.Command = strings.Repeat("\x2a", size) })
	}
	data := func(name string, change func(*string)) {
		list = append(list, slip{name, func(_ *api.Link, _ *api.Wrap, data *string, _ *[]int) { change(data) }, api.ErrArg})
	}
	data("more data", func(data *string) { *data += "z" })
	data("far more data", func(data *string) { *data += strings.Repeat("z", 4096) })
	data("256 bytes more", func(data *string) { *data += strings.Repeat("z", 256) })
	data("other data", func(data *string) { *data = "other data" })
	data("a byte of data", func(data *string) { *data = "z" })
	return list
}

// TestCycleRefused: P22.1: each slip alone, and any two, of which the one that stands ahead is told.
func TestCycleRefused(t *testing.T) {
	d := dice{1}
	list := cycleSlips()
	for _, w := range []api.Wrap{
		{Length: 32, Command: about(42, 1, 2)},
		{Length: 32, In: true, Command: about(40, 1, 2)},
		{Command: ready},
		{In: true, Command: ready},
	} {
		data := ""
		if !w.In {
			data = strings.Repeat("z", w.Length)
		}
		l := d.link(5)
		for i, first := range list {
			for _, second := range list[i:] {
				lx, wx, dx, fx := cloned(l), w, data, goods(8)
				// The one that stands ahead is made last, so that the other one can't undo it.
				second.make(&lx, &wx, &dx, &fx)
				first.make(&lx, &wx, &dx, &fx)
				got := cycle(lx, wx, dx, fx)
				if want := refusalByWords(lx, wx, dx, fx); got.out.Code != want || want == api.OK {
					t.Fatalf("%s, %s: %d, want %d", first.name, second.name, got.out.Code, want)
				}
				holdRefused(t, first.name+", "+second.name, got, lx, first.code)
			}
		}
	}
}

// TestCycleRefusalsInOrder: P22.1: where two slips have other codes the first one is told.
func TestCycleRefusalsInOrder(t *testing.T) {
	l := (&dice{2}).link(4)
	short, far, many := cloned(l), cloned(l), slices.Repeat([]int{9}, 1001)
	short.Disk.Blocks[3] = "short"
	short.Tag, far.Tag = -1, 1<<32
	big := strings.Repeat("z", 4097)
	for _, c := range []struct {
		name  string
		link  api.Link
		wrap  api.Wrap
		data  string
		fates []int
		want  api.Errno
	}{
		{"no disk, and all else", api.Link{Tag: -1}, api.Wrap{}, big, many, api.ErrArg},
		{"a short block, and all else", short, api.Wrap{}, big, many, api.ErrForm},
		{"a Tag, and all else", far, api.Wrap{}, big, many, api.ErrArg},
		{"many fates, and all else", l, api.Wrap{}, big, many, api.ErrLarge},
		{"many fates of which none is one", l, api.Wrap{Command: ready}, "", many, api.ErrLarge},
		{"many good fates", l, api.Wrap{Command: ready}, "", goods(1001), api.ErrLarge},
		{"a wrap, and much data", l, api.Wrap{Length: 4097}, big, nil, api.ErrArg},
		{"another unit, and much data", l, api.Wrap{Length: 4097, Unit: 16, Command: ready}, big, nil, api.ErrArg},
		{"much data that isn't Length", l, api.Wrap{Length: 4096, Command: ready}, big, nil, api.ErrArg},
		{"much data, and In", l, api.Wrap{Length: 4097, In: true, Command: ready}, big, nil, api.ErrArg},
		{"much data", l, api.Wrap{Length: 4097, Command: ready}, big, nil, api.ErrLarge},
		{"much more data", l, api.Wrap{Length: 4 * 4097, Command: ready}, strings.Repeat(big, 4), goods(1000), api.ErrLarge},
		{"65536 bytes", l, api.Wrap{Length: 65536, Command: ready}, strings.Repeat("z", 65536), nil, api.ErrLarge},
		{"less data than Length", l, api.Wrap{Length: most, Command: ready}, "z", nil, api.ErrArg},
		{"the right data, and In", l, api.Wrap{Length: 2, In: true, Command: ready}, "zz", nil, api.ErrArg},
		{"a fate that is none, far behind", l, api.Wrap{Command: ready}, "", append(goods(999), 6), api.ErrArg},
		{"a fate that is none, and much data", l, api.Wrap{Length: 4097, Command: ready}, big, []int{0}, api.ErrArg},
	} {
		got := holdCycle(t, c.link, c.wrap, c.data, c.fates)
		holdRefused(t, c.name, got, c.link, c.want)
	}
}

// TestCycleTakesAtBounds: P22.1: what is just within the bounds is not refused.
func TestCycleTakesAtBounds(t *testing.T) {
	d := dice{3}
	for _, blocks := range []int{1, 64} {
		for _, tag := range []int{0, 1, 1 << 31, most - 1, most} {
			l := d.link(blocks)
			l.Tag = tag
			for _, c := range []struct {
				wrap api.Wrap
				data string
			}{
				{api.Wrap{Length: most, In: true, Command: inquiry}, ""},
				{api.Wrap{Length: 4096, Command: ready}, d.text(4096)},
				{api.Wrap{Length: 4095, Command: ready}, d.text(4095)},
				{api.Wrap{Command: "\x00"}, ""},
				{api.Wrap{In: true, Command: d.text(16)}, ""},
				{api.Wrap{Unit: 15, Command: ready}, ""},
			} {
				for _, fates := range [][]int{nil, goods(1), goods(67), goods(68), goods(999), goods(1000)} {
					got := holdCycle(t, l, c.wrap, c.data, fates)
					if got.out.Code == api.ErrArg || got.out.Code == api.ErrLarge || got.link.Tag == tag {
						t.Errorf("Cycle(%v, %d fates) = %v, Tag %d", c.wrap, len(fates), got.out, got.link.Tag)
					}
				}
			}
		}
	}
}

// TestCycleTag: P22.1: the link's Tag is one more, 0 behind the last, however it ends; the wrap's own doesn't count.
func TestCycleTag(t *testing.T) {
	l := (&dice{4}).link(3)
	tags := []int{0, most, most - 1}
	for at := range 32 {
		tags = append(tags, 1<<at, 1<<at-1, most-1<<at)
	}
	for _, tag := range tags {
		l.Tag = tag
		want := tag + 1
		if tag == 4294967295 {
			want = 0
		}
		for _, other := range append([]int{0, 1, most, tag}, far...) {
			for _, fates := range [][]int{goods(9), nil, {stall}, {lost, lost, lost}, {good, deaf}} {
				got := holdCycle(t, l, api.Wrap{Tag: other, Length: 18, In: true, Command: asksWhy}, "", fates)
				if got.link.Tag != want {
					t.Errorf("Tag %d: %d", tag, got.link.Tag)
				}
			}
		}
	}
}

// TestCycleEnds: P22.1: what is told at each end, written out.
func TestCycleEnds(t *testing.T) {
	l := (&dice{5}).link(4)
	l.Tag, l.Disk.Sense = 7, 33
	data := strings.Repeat("a", 16) + strings.Repeat("b", 16)
	out := api.Wrap{Length: 32, Command: about(42, 1, 2)}
	in := api.Wrap{Length: 32, In: true, Command: about(40, 1, 2)}
	wide := api.Wrap{Length: 64, Command: about(42, 0, 4)}
	was, is := l.Disk, api.Disk{Blocks: []string{l.Disk.Blocks[0], data[:16], data[16:], l.Disk.Blocks[3]}}
	four := api.Disk{Blocks: []string{data[:16], data[16:], data[:16], data[16:]}}
	calm := api.Disk{Blocks: was.Blocks}
	sense := func(n int) api.Disk { return api.Disk{Blocks: was.Blocks, Sense: n} }
	what := l.Disk.Blocks[1] + l.Disk.Blocks[2]
	for _, c := range []struct {
		name  string
		wrap  api.Wrap
		data  string
		fates []int
		disk  api.Disk
		in    string
		code  api.Errno
		used  int
	}{
		{"no fate", out, data, nil, was, "", api.ErrTime, 0},
		{"the wrap is lost", out, data, []int{lost, lost, lost, good}, was, "", api.ErrBus, 3},
		{"the wrap is there, unheard of", out, data, []int{deaf, deaf, deaf, good}, was, "", api.ErrBus, 3},
		{"a command without data is there, unheard of", in, "", []int{deaf, deaf, deaf, good}, was, "", api.ErrBus, 3},
		{"the wrap stalls", out, data, []int{stall, good}, was, "", api.ErrStall, 1},
		{"the wrap has no time", out, data, []int{busy, busy, busy, busy}, was, "", api.ErrTime, 4},
		{"no fate is left for data", out, data, goods(1), was, "", api.ErrTime, 1},
		{"data is lost", out, data, []int{good, lost, lost, lost, good, good}, was, "", api.ErrBus, 4},
		{"data is there, unheard of", out, data, []int{good, deaf}, is, "", api.ErrTime, 2},
		{"data is there, and then it stalls", out, data, []int{good, deaf, stall, good}, is, "", api.ErrStall, 3},
		{"data is there, and then it is lost", out, data, []int{good, lost, deaf, lost, good}, is, "", api.ErrBus, 4},
		{"data stalls", out, data, []int{good, stall, good}, was, "", api.ErrStall, 2},
		{"no fate is left for a status", out, data, goods(2), is, "", api.ErrTime, 2},
		{"the status is lost", out, data, []int{good, good, lost, lost, lost, good}, is, "", api.ErrBus, 5},
		{"the status stalls", out, data, []int{good, good, busy, stall, good}, is, "", api.ErrStall, 4},
		{"all goes well", out, data, goods(4), is, "", api.OK, 3},
		{"strikes of one transfer don't count for the next", out, data, []int{lost, lost, good, lost, deaf, good, deaf, lost, good, stall}, is, "", api.OK, 9},
		{"whole packets, without the short one", wide, data + data, goods(2), four, "", api.ErrTime, 2},
		{"whole packets, and the short one is lost", wide, data + data, []int{good, good, lost, lost, lost}, four, "", api.ErrBus, 5},
		{"whole packets, of which the last is there, unheard of", wide, data + data, []int{good, deaf, stall}, four, "", api.ErrStall, 3},
		{"whole packets", wide, data + data, goods(9), four, "", api.OK, 4},
		{"no fate is left for what goes in", in, "", goods(1), calm, "", api.ErrTime, 1},
		{"what goes in is lost", in, "", []int{good, lost, lost, deaf, good}, calm, "", api.ErrBus, 4},
		{"what goes in stalls", in, "", []int{good, stall, good}, calm, "", api.ErrStall, 2},
		{"the status behind what goes in is lost", in, "", []int{good, good, lost, deaf, lost}, calm, "", api.ErrBus, 5},
		{"what goes in", in, "", goods(4), calm, what, api.OK, 3},
		{"less than is meant goes in", api.Wrap{Length: 99, In: true, Command: about(40, 1, 2)}, "", goods(4), calm, what, api.OK, 3},
		{"nothing goes in, and that is carried", api.Wrap{Length: 9, In: true, Command: ready}, "", goods(4), calm, "", api.OK, 3},
		{"nothing goes in, and that is lost", api.Wrap{Length: 9, In: true, Command: ready}, "", []int{good, lost, lost, lost}, calm, "", api.ErrBus, 4},
		{"nothing is meant", api.Wrap{Command: ready}, "", goods(4), calm, "", api.OK, 2},
		{"nothing is meant, In", api.Wrap{In: true, Command: ready}, "", goods(4), calm, "", api.OK, 2},
		{"nothing is meant, but something is there", api.Wrap{In: true, Command: inquiry}, "", goods(4), was, "", api.ErrForm, 2},
		{"less is meant than goes in", api.Wrap{Length: 31, In: true, Command: about(40, 1, 2)}, "", goods(4), was, "", api.ErrForm, 3},
		{"data that isn't wanted", api.Wrap{Length: 32, Command: about(40, 1, 2)}, data, goods(4), was, "", api.ErrForm, 3},
		{"less data than is wanted", api.Wrap{Length: 31, Command: about(42, 1, 2)}, data[:31], goods(4), was, "", api.ErrForm, 3},
		{"in, but it would be out", api.Wrap{Length: 32, In: true, Command: about(42, 1, 2)}, "", goods(4), was, "", api.ErrForm, 3},
		{"out, but more than is wanted", api.Wrap{Length: 33, Command: about(42, 1, 2)}, data + "z", goods(4), is, "", api.OK, 3},
		{"no such block to read", api.Wrap{Length: 32, In: true, Command: about(40, 3, 2)}, "", goods(4), sense(33), "", api.ErrCheck, 3},
		{"no such block to write", api.Wrap{Length: 32, Command: about(42, 3, 2)}, data, goods(4), sense(33), "", api.ErrCheck, 3},
		{"no such command", api.Wrap{Command: unknown}, "", goods(4), sense(32), "", api.ErrCheck, 2},
		{"a wrong field", api.Wrap{Length: 8, In: true, Command: capacity[:9]}, "", goods(4), sense(36), "", api.ErrCheck, 3},
		{"it was not done, and nobody hears of it", api.Wrap{Command: unknown}, "", goods(1), sense(32), "", api.ErrTime, 1},
		{"another unit", api.Wrap{Unit: 1, Command: ready}, "", goods(4), was, "", api.ErrStall, 1},
		{"another unit, in", api.Wrap{Length: 32, In: true, Unit: 15, Command: about(40, 1, 2)}, "", goods(4), was, "", api.ErrStall, 1},
		{"another unit, out", api.Wrap{Length: 32, Unit: 1, Command: about(42, 1, 2)}, data, goods(4), was, "", api.ErrStall, 2},
		{"another unit, and the wrap is lost", api.Wrap{Unit: 1, Command: ready}, "", []int{lost, lost, lost}, was, "", api.ErrBus, 3},
		{"another unit, and data is there, unheard of", api.Wrap{Length: 32, Unit: 1, Command: about(42, 1, 2)}, data, []int{good, deaf, deaf, deaf}, was, "", api.ErrBus, 4},
		{"another unit, and no time for data", api.Wrap{Length: 32, Unit: 1, Command: about(42, 1, 2)}, data, []int{good, deaf, busy}, was, "", api.ErrTime, 3},
	} {
		got := holdCycle(t, l, c.wrap, c.data, c.fates)
		want := told{api.Link{Disk: c.disk, Tag: 8}, c.in, api.Outcome{Code: c.code, Used: c.used}}
		if !same(got, want) {
			t.Errorf("%s: %v; want %v", c.name, got, want)
		}
	}
}

// TestCycleAllRows: P22.1: all rows of up to seven fates.
func TestCycleAllRows(t *testing.T) {
	d := dice{6}
	l := d.link(5)
	all := rows(7)
	for _, w := range []api.Wrap{
		{Length: 16, Command: about(42, 1, 1)},
		{Length: 64, Command: about(42, 0, 4)},
		{Length: 65, Command: about(42, 0, 4)},
		{Length: 80, Command: about(42, 0, 5)},
		{Length: 32, Command: about(42, 4, 2)},
		{Length: 31, Command: about(42, 1, 2)},
		{Length: 3, Command: ready},
		{Length: 3, Unit: 1, Command: ready},
	} {
		data := d.text(w.Length)
		for _, fates := range all {
			holdCycle(t, l, w, data, fates)
		}
	}
	for _, w := range []api.Wrap{
		{Length: 32, In: true, Command: about(40, 1, 2)},
		{Length: 64, In: true, Command: about(40, 1, 4)},
		{Length: 80, In: true, Command: about(40, 0, 5)},
		{Length: 63, In: true, Command: about(40, 1, 4)},
		{Length: 16, In: true, Command: about(40, 5, 1)},
		{Length: 4, In: true, Command: noAnswer},
		{In: true, Command: ready},
		{Command: inquiry},
		{Command: unknown},
		{Length: 5, In: true, Unit: 2, Command: inquiry},
	} {
		for _, fates := range all[:len(all)/5] {
			holdCycle(t, l, w, "", fates)
		}
	}
}

// TestCycleSizes: P22.1: data of each size is carried in packets of 64 bytes, in and out.
func TestCycleSizes(t *testing.T) {
	d := dice{7}
	l := d.link(64)
	sizes := []int{4000, 4031, 4032, 4033, 4094, 4095, 4096}
	for size := range 400 {
		sizes = append(sizes, size)
	}
	for _, size := range sizes {
		got := holdCycle(t, l, api.Wrap{Length: size, Command: ready}, d.text(size), goods(200))
		want := 1 + size/64 + 1 + 1
		if size == 0 {
			want = 2
		}
		if got.out != (api.Outcome{Used: want}) {
			t.Errorf("%d bytes out: %v, want %d", size, got.out, want)
		}
	}
	for count := range 65 {
		w := api.Wrap{Length: 2000, In: true, Command: about(40, 0, uint16(count))}
		got := holdCycle(t, l, w, "", goods(200))
		if got.out != (api.Outcome{Used: 1 + count/4 + 1 + 1}) || got.text != strings.Join(l.Disk.Blocks[:count], "") {
			t.Errorf("%d blocks in: %v", count, got.out)
		}
	}
}

// TestCycleLooksAtAllFates: P22.1: a fate that is none is refused, also behind those that would be used; good ones there change nothing.
func TestCycleLooksAtAllFates(t *testing.T) {
	l := (&dice{8}).link(3)
	w := api.Wrap{Length: 4, In: true, Command: mode}
	for size := range 12 {
		for at := range size {
			fates := goods(size)
			fates[at] = 6
			holdRefused(t, "a fate that is none", cycle(l, w, "", fates), l, api.ErrArg)
			fates[at] = 0
			holdRefused(t, "a fate that is none", cycle(l, w, "", fates), l, api.ErrArg)
		}
	}
	for _, more := range rows(4) {
		got := holdCycle(t, l, w, "", append(goods(3), more...))
		if got.out != (api.Outcome{Used: 3}) || got.text != "\x03\x00\x00\x00" {
			t.Errorf("%v", got)
		}
	}
}

// TestCycleThrown: P22.1: links through many cycles, most of them near to right ones.
func TestCycleThrown(t *testing.T) {
	d := dice{9}
	for range 400 {
		l := d.link(1 + d.below(64))
		if d.below(4) == 0 {
			l.Tag = most - d.below(20)
		}
		for range 50 {
			w, data := d.near(len(l.Disk.Blocks))
			fates := d.fates(d.below(100), 50+d.below(51))
			if d.below(30) == 0 && len(fates) > 0 {
				fates[d.below(len(fates))] = d.below(10)
			}
			l = holdCycle(t, l, w, data, fates).link
		}
	}
}

// near is a command that is thrown for a disk of so many blocks, with its data.
func (d *dice) near(blocks int) (api.Wrap, string) {
	lba := d.below(blocks + 1)
	count := d.below(blocks - lba + 1)
	list := []string{ready, asksWhy, inquiry, mode, capacity, unknown}
	for _, op := range []byte{40, 40, 42, 42, 42, 53} {
		list = append(list, about(op, uint32(lba), uint16(count)))
	}
	command := list[d.below(len(list))]
	if d.below(10) == 0 {
		command = command[:d.below(len(command))]
	}
	length := []int{0, 4, 8, 18, 36, 16 * count, 16 * count, 16 * count, d.below(100)}[d.below(9)]
	w := api.Wrap{Tag: d.below(100), Length: length, In: d.below(2) == 0, Command: command}
	if d.below(20) == 0 {
		w.Unit = d.below(18)
	}
	data := ""
	if !w.In {
		data = d.text(length)
	}
	if d.below(20) == 0 {
		data = d.text(d.below(100))
	}
	return w, data
}

// TestRunsRefused: P22.2, P22.3: each slip of a link and fates, and any two, ahead of what is wrong with the blocks.
func TestRunsRefused(t *testing.T) {
	d := dice{10}
	list := linkSlips()
	l := d.link(5)
	for i, first := range list {
		for _, second := range list[i:] {
			lx, fx := cloned(l), goods(20)
			second.make(&lx, nil, nil, &fx)
			first.make(&lx, nil, nil, &fx)
			for _, lba := range []int{0, -1, 9} {
				for _, count := range []int{0, 1, -1, 9} {
					holdRefused(t, "Read: "+first.name+", "+second.name, read(lx, lba, count, fx), lx, first.code)
				}
				for _, size := range []int{0, 16, 17, 144} {
					holdRefused(t, "Write: "+first.name+", "+second.name, write(lx, lba, d.text(size), fx), lx, first.code)
				}
			}
		}
	}
}

// TestReadBounds: P22.2: places and counts, within and beyond their bounds, however far.
func TestReadBounds(t *testing.T) {
	d := dice{11}
	for _, blocks := range []int{1, 2, 5, 8, 63, 64} {
		l := d.link(blocks)
		list := slices.Clone(far)
		for n := -2; n < 70; n++ {
			list = append(list, n)
		}
		list = append(list, math.MaxInt-blocks, math.MaxInt-blocks+1, math.MinInt+blocks, 1<<32-blocks)
		for _, lba := range list {
			for _, count := range list {
				got := holdRead(t, l, lba, count, goods(70))
				want := api.OK
				switch {
				case lba < 0 || count < 0:
					want = api.ErrArg
				case lba > blocks || count > blocks || lba+count > blocks:
					want = api.ErrNone
				}
				if want != api.OK {
					holdRefused(t, "Read", got, l, want)
					continue
				}
				if got.out.Code != api.OK || got.out.Done != count || got.text != strings.Join(l.Disk.Blocks[lba:lba+count], "") {
					t.Fatalf("Read(%d, %d) of %d blocks = %v", lba, count, blocks, got.out)
				}
			}
		}
	}
}

// TestWriteBounds: P22.3: places and sizes of data, within and beyond their bounds.
func TestWriteBounds(t *testing.T) {
	d := dice{12}
	for _, blocks := range []int{1, 2, 5, 64} {
		l := d.link(blocks)
		list := slices.Clone(far)
		for n := -2; n < 70; n++ {
			list = append(list, n)
		}
		for _, lba := range append(list, math.MaxInt-blocks, math.MaxInt-blocks+1, 1<<32-blocks) {
			for _, size := range []int{0, 1, 15, 16, 17, 31, 32, 33, 48, 63, 64, 65, 79, 80, 81, 96, 97, 1008, 1023, 1024, 1025, 1040, 4096, 4097, 4112, 65536} {
				data := d.text(size)
				got := holdWrite(t, l, lba, data, goods(70))
				want := api.OK
				switch {
				case lba < 0 || size%16 != 0:
					want = api.ErrArg
				case lba > blocks || size > 16*blocks || 16*lba+size > 16*blocks:
					want = api.ErrNone
				}
				if want != api.OK {
					holdRefused(t, "Write", got, l, want)
					continue
				}
				whole := strings.Join(l.Disk.Blocks, "")
				if whole = whole[:16*lba] + data + whole[16*lba+size:]; strings.Join(got.link.Disk.Blocks, "") != whole || got.out.Done != size/16 {
					t.Fatalf("Write(%d, %d bytes) to %d blocks = %v", lba, size, blocks, got.out)
				}
			}
		}
	}
}

// TestRunsPieces: P22.2, P22.3: four blocks a piece, the last one what is left, and a command for each: none for no block.
func TestRunsPieces(t *testing.T) {
	d := dice{13}
	l := d.link(64)
	for count := range 65 {
		whole, rest := count/4, count%4
		// A piece of four blocks has a packet and the short one that tells the end.
		used, cycles := whole*(1+2+1), whole
		if rest > 0 {
			used, cycles = used+1+1+1, cycles+1
		}
		for _, lba := range []int{0, 64 - count} {
			data := d.text(16 * count)
			for _, got := range []told{holdRead(t, l, lba, count, goods(300)), holdWrite(t, l, lba, data, goods(300))} {
				if got.out != (api.Outcome{Done: count, Used: used}) || got.link.Tag != l.Tag+cycles {
					t.Errorf("%d blocks: %v, %d cycles", count, got.out, got.link.Tag-l.Tag)
				}
			}
			// With one fate less all but the last piece is done.
			if count == 0 {
				continue
			}
			for _, got := range []told{holdRead(t, l, lba, count, goods(used-1)), holdWrite(t, l, lba, data, goods(used-1))} {
				if want := (api.Outcome{Code: api.ErrTime, Done: (count - 1) / 4 * 4, Used: used - 1}); got.out != want {
					t.Errorf("%d blocks: %v, want %v", count, got.out, want)
				}
			}
		}
	}
}

// TestNoBlock: P22.2, P22.3: without a block nothing is done, and no fate is used, whatever they are.
func TestNoBlock(t *testing.T) {
	l := (&dice{14}).link(3)
	for lba := range 4 {
		for _, fates := range [][]int{nil, goods(5), {stall, lost}} {
			holdRefused(t, "Read", read(l, lba, 0, fates), l, api.OK)
			holdRefused(t, "Write", write(l, lba, "", fates), l, api.OK)
		}
	}
	holdRefused(t, "Read", read(l, 4, 0, nil), l, api.ErrNone)
	holdRefused(t, "Write", write(l, 4, "", nil), l, api.ErrNone)
}

// TestRunsEnds: P22.2, P22.3: what is done again, how often, and what is told, written out.
func TestRunsEnds(t *testing.T) {
	l := (&dice{15}).link(8)
	l.Tag = most - 1
	bus, unheard := []int{lost, lost, lost}, []int{deaf, deaf, deaf}
	one := goods(3)
	list := func(parts ...[]int) []int { return slices.Concat(parts...) }
	for _, c := range []struct {
		name   string
		count  int
		fates  []int
		want   api.Outcome
		cycles int
		there  int // blocks that were written, known or not
	}{
		{"no fate", 1, nil, api.Outcome{Code: api.ErrTime}, 1, 0},
		{"well at once", 1, one, api.Outcome{Done: 1, Used: 3}, 1, 1},
		{"well the second time", 1, list(bus, one), api.Outcome{Done: 1, Used: 6}, 2, 1},
		{"well the third time", 1, list(bus, bus, one), api.Outcome{Done: 1, Used: 9}, 3, 1},
		{"never well", 1, list(bus, bus, bus, one), api.Outcome{Code: api.ErrBus, Used: 9}, 3, 0},
		{"it stalls, and then it is well", 1, list([]int{stall}, one), api.Outcome{Done: 1, Used: 4}, 2, 1},
		{"it stalls twice, and then it is well", 1, list([]int{stall, stall}, one), api.Outcome{Done: 1, Used: 5}, 3, 1},
		{"it stalls three times", 1, list([]int{stall, stall, stall}, one), api.Outcome{Code: api.ErrStall, Used: 3}, 3, 0},
		{"it stalls, and is lost, and stalls", 1, list([]int{stall}, bus, []int{stall}, one), api.Outcome{Code: api.ErrStall, Used: 5}, 3, 0},
		{"it stalls, and then has no time", 1, []int{stall, busy, busy}, api.Outcome{Code: api.ErrTime, Used: 3}, 2, 0},
		{"it stalls with the last fate", 1, []int{stall}, api.Outcome{Code: api.ErrTime, Used: 1}, 2, 0},
		{"it is lost with the last fate", 1, list(bus), api.Outcome{Code: api.ErrTime, Used: 3}, 2, 0},
		{"it is lost twice with the last fate", 1, list(bus, bus), api.Outcome{Code: api.ErrTime, Used: 6}, 3, 0},
		{"it is lost three times with the last fate", 1, list(bus, bus, bus), api.Outcome{Code: api.ErrBus, Used: 9}, 3, 0},
		{"no time", 1, slices.Repeat([]int{busy}, 20), api.Outcome{Code: api.ErrTime, Used: 20}, 1, 0},
		{"data unheard of, and then well", 1, list([]int{good}, unheard, one), api.Outcome{Done: 1, Used: 7}, 2, 1},
		{"data unheard of, and then nothing", 1, list([]int{good}, unheard), api.Outcome{Code: api.ErrTime, Used: 4}, 2, 1},
		{"the status unheard of three times", 1, list(one[:2], unheard, one[:2], unheard, one[:2], unheard), api.Outcome{Code: api.ErrBus, Used: 15}, 3, 1},
		{"each piece may be done three times", 8, list(bus, bus, goods(4), bus, bus, goods(4)), api.Outcome{Done: 8, Used: 20}, 6, 8},
		{"the second piece never", 8, list(bus, goods(4), bus, bus, bus), api.Outcome{Code: api.ErrBus, Done: 4, Used: 16}, 5, 4},
		{"the second piece never, but it is there", 6, list(goods(4), one[:1], []int{deaf, stall, stall, stall}, one), api.Outcome{Code: api.ErrStall, Done: 4, Used: 9}, 4, 6},
		{"the second piece has no time", 6, goods(6), api.Outcome{Code: api.ErrTime, Done: 4, Used: 6}, 2, 6},
		{"the short packet of the first piece is lost", 8, list(goods(2), bus, bus, bus), api.Outcome{Code: api.ErrBus, Used: 11}, 3, 4},
	} {
		data := strings.Repeat("z", 16*c.count)
		tag := (l.Tag + c.cycles) % (1 << 32)
		got := holdWrite(t, l, 0, data, c.fates)
		whole := strings.Join(l.Disk.Blocks, "")
		whole = data[:16*c.there] + whole[16*c.there:]
		if got.out != c.want || got.link.Tag != tag || got.text != "" || strings.Join(got.link.Disk.Blocks, "") != whole {
			t.Errorf("Write: %s: %v, Tag %d, want %v, Tag %d", c.name, got.out, got.link.Tag, c.want, tag)
		}
		got = holdRead(t, l, 0, c.count, c.fates)
		whole = strings.Join(l.Disk.Blocks, "")
		if got.out != c.want || got.link.Tag != tag || got.text != whole[:16*c.want.Done] || strings.Join(got.link.Disk.Blocks, "") != whole {
			t.Errorf("Read: %s: %v, Tag %d, want %v, Tag %d", c.name, got.out, got.link.Tag, c.want, tag)
		}
	}
}

// TestRunsAllRows: P22.2, P22.3: all rows of up to seven fates, of one piece, of a whole one, and of more.
func TestRunsAllRows(t *testing.T) {
	d := dice{16}
	l := d.link(6)
	all := rows(7)
	for _, count := range []int{1, 4, 5} {
		data := d.text(16 * count)
		for _, fates := range all {
			holdWrite(t, l, 1, data, fates)
			holdRead(t, l, 1, count, fates)
		}
	}
}

// TestRunsBehindGoodFates: P22.2, P22.3: all rows of up to five fates behind each beginning of a run in which all went well.
func TestRunsBehindGoodFates(t *testing.T) {
	d := dice{17}
	l := d.link(10)
	data := d.text(16 * 9)
	all := rows(5)
	for well := range 12 {
		for _, row := range all {
			fates := append(goods(well), row...)
			holdWrite(t, l, 1, data, fates)
			holdRead(t, l, 1, 9, fates)
		}
	}
}

// TestRunsThrown: links through many runs, whose blocks are always what the words say.
func TestRunsThrown(t *testing.T) {
	d := dice{18}
	for range 300 {
		l := d.link(1 + d.below(64))
		if d.below(4) == 0 {
			l.Tag = most - d.below(40)
		}
		blocks := len(l.Disk.Blocks)
		for range 30 {
			lba := d.below(blocks+3) - 1
			count := d.below(max(blocks-lba, 0) + 2)
			fates := d.fates(d.below(200), 40+d.below(61))
			if d.below(30) == 0 && len(fates) > 0 {
				fates[d.below(len(fates))] = d.below(10)
			}
			data := d.text(16 * count)
			if d.below(10) == 0 {
				data = d.text(d.below(200))
			}
			l = holdWrite(t, l, lba, data, fates).link
			l = holdRead(t, l, lba, count, d.fates(d.below(200), 40+d.below(61))).link
		}
	}
}

// TestReadIsWritten: what is read is what was written there last, and what went wrong changed nothing but a beginning.
func TestReadIsWritten(t *testing.T) {
	d := dice{19}
	l, _ := New(64)
	model := strings.Repeat("\x00", 16*64)
	for range 3000 {
		lba := d.below(65)
		count := d.below(65 - lba)
		data := d.text(16 * count)
		got := write(l, lba, data, d.fates(d.below(150), 60+d.below(41)))
		now := strings.Join(got.link.Disk.Blocks, "")
		there := 0
		for there < count && now[16*(lba+there):16*(lba+there+1)] == data[16*there:16*(there+1)] {
			there++
		}
		if want := model[:16*lba] + data[:16*there] + model[16*(lba+there):]; now != want || there < got.out.Done || got.out.Code == api.OK && there != count {
			t.Fatalf("Write(%d, %d blocks): %v, %d are there", lba, count, got.out, there)
		}
		l, model = got.link, now
		got = read(l, lba, count, d.fates(d.below(150), 60+d.below(41)))
		if l = got.link; strings.Join(l.Disk.Blocks, "") != model || got.text != model[16*lba:16*(lba+got.out.Done)] {
			t.Fatalf("Read(%d, %d blocks): %v", lba, count, got.out)
		}
	}
}

// TestFatesAtMost: P22.1 to P22.3: a thousand fates are not too many, and all of them may be used.
func TestFatesAtMost(t *testing.T) {
	l := (&dice{20}).link(64)
	data := strings.Repeat("z", 1024)
	busies := slices.Repeat([]int{busy}, 1000)
	for _, got := range []told{
		holdRead(t, l, 0, 64, busies),
		holdWrite(t, l, 0, data, busies),
		holdCycle(t, l, api.Wrap{Command: ready}, "", busies),
	} {
		if got.out != (api.Outcome{Code: api.ErrTime, Used: 1000}) {
			t.Error(got.out)
		}
	}
	late := append(slices.Repeat([]int{busy}, 936), goods(64)...)
	for _, got := range []told{holdRead(t, l, 0, 64, late), holdWrite(t, l, 0, data, late)} {
		if got.out != (api.Outcome{Done: 64, Used: 1000}) {
			t.Error(got.out)
		}
	}
}

// TestMemory: P2: a link that is answered shares nothing with the one that was handed in, nor is the room behind that, or behind fates, used.
func TestMemory(t *testing.T) {
	d := dice{21}
	right := d.link(6)
	wrong, late := cloned(right), cloned(right)
	wrong.Disk.Blocks[2] = "wrong"
	late.Tag = -1
	data := d.text(80)
	calls := []func(api.Link, []int) told{
		func(l api.Link, fates []int) told { return read(l, 1, 5, fates) },
		func(l api.Link, fates []int) told { return read(l, 1, 0, fates) },
		func(l api.Link, fates []int) told { return read(l, 1, -1, fates) },
		func(l api.Link, fates []int) told { return read(l, 1, 6, fates) },
		func(l api.Link, fates []int) told { return write(l, 1, data, fates) },
		func(l api.Link, fates []int) told { return write(l, 1, "", fates) },
		func(l api.Link, fates []int) told { return write(l, 1, "z", fates) },
		func(l api.Link, fates []int) told { return write(l, 2, data, fates) },
		func(l api.Link, fates []int) told { return cycle(l, api.Wrap{}, "", fates) },
		func(l api.Link, fates []int) told { return cycle(l, api.Wrap{Command: ready}, "", fates) },
		func(l api.Link, fates []int) told { return cycle(l, api.Wrap{Unit: 1, Command: ready}, "", fates) },
		func(l api.Link, fates []int) told {
			return cycle(l, api.Wrap{Length: 80, Command: about(42, 0, 5)}, data, fates)
		},
		func(l api.Link, fates []int) told {
			return cycle(l, api.Wrap{Length: 80, In: true, Command: about(40, 0, 5)}, "", fates)
		},
	}
	for _, l := range []api.Link{right, wrong, late} {
		for i, call := range calls {
			for _, fates := range [][]int{nil, {good}, {good, good}, {lost, lost, lost}, goods(9), goods(1001)} {
				room := append(slices.Clone(l.Disk.Blocks), "room", "room")
				before := slices.Clone(room)
				fateRoom := append(slices.Clone(fates), 77, 78)
				in := l
				in.Disk.Blocks = room[:len(room)-2]
				got := call(in, fateRoom[:len(fates)])
				for at := range got.link.Disk.Blocks {
					got.link.Disk.Blocks[at] = "other"
				}
				_ = append(got.link.Disk.Blocks, "other")
				if !slices.Equal(room, before) || !slices.Equal(fateRoom, append(slices.Clone(fates), 77, 78)) {
					t.Fatalf("call %d: what was handed in was changed", i)
				}
			}
		}
	}
}

// TestKeepsNothing: P2: the same is answered again, whatever was done between.
func TestKeepsNothing(t *testing.T) {
	d := dice{22}
	l := d.link(7)
	data := d.text(96)
	calls := []func() told{
		func() told { return read(l, 1, 6, goods(20)) },
		func() told { return write(l, 1, data, goods(5)) },
		func() told { return write(l, 1, data, goods(20)) },
		func() told { return cycle(l, api.Wrap{Command: unknown}, "", goods(5)) },
		func() told { return cycle(l, api.Wrap{Length: 18, In: true, Command: asksWhy}, "", goods(5)) },
	}
	for i, call := range calls {
		first := call()
		for _, other := range calls {
			other()
		}
		if again := call(); !same(again, first) {
			t.Errorf("call %d: %v; ahead of it %v", i, again, first)
		}
	}
}

// TestNothingHandedIn: P1: what is all zero is answered, too.
func TestNothingHandedIn(t *testing.T) {
	holdRefused(t, "Cycle", cycle(api.Link{}, api.Wrap{}, "", nil), api.Link{}, api.ErrArg)
	holdRefused(t, "Read", read(api.Link{}, 0, 0, nil), api.Link{}, api.ErrArg)
	holdRefused(t, "Write", write(api.Link{}, 0, "", nil), api.Link{}, api.ErrArg)
}
