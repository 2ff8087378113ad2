package host

import (
	"math"
	"reflect"
	"slices"
	"testing"

	"plugtree/api"
	"plugtree/ring"
	"plugtree/slots"
)

// far are numbers that are out of all bounds, many of them such that their lower bits are not.
var far = []int{-1, -2, -3, -16, -32, -64, -1 << 31, -1 << 32, -1<<32 + 1, 1 << 32, 1<<32 + 1, 1<<32 + 3, 1 << 33, 1 << 40, 1<<62 + 1, 1<<62 + 3, math.MinInt, math.MinInt + 1, math.MinInt + 3, math.MaxInt, math.MaxInt - 1}

// dice are numbers that are the same in each run.
type dice struct{ n uint64 }

func (d *dice) below(most int) int {
	d.n = d.n*6364136223846793005 + 1442695040888963407
	return int(d.n>>33) % most
}

func pick[T any](d *dice, list []T) T { return list[d.below(len(list))] }

// word is the number of a command, told by sums alone.
func word(c api.Cmd) uint64 {
	const end, slot, kind = 4294967296, 4294967296 * 32, 4294967296 * 32 * 16
	return uint64(c.Arg) + uint64(c.End)*end + uint64(c.Slot)*slot + uint64(c.Kind)*kind
}

func eventWord(e api.Event) uint64 {
	return uint64(e.Code) + 256*uint64(e.Slot) + 65536*uint64(e.At)
}

func sameRing(a, b api.Ring) bool {
	return slices.Equal(a.Cells, b.Cells) && a.Put == b.Put && a.Get == b.Get && a.Seen == b.Seen
}

func same(a, b api.Machine) bool {
	return sameRing(a.Cmds, b.Cmds) && sameRing(a.Evts, b.Evts) && a.Board == b.Board
}

func isZero(m api.Machine) bool { return reflect.DeepEqual(m, api.Machine{}) }

func clone(m api.Machine) api.Machine {
	m.Cmds.Cells, m.Evts.Cells = slices.Clone(m.Cmds.Cells), slices.Clone(m.Evts.Cells)
	return m
}

// madeRing is a new ring, written out as P12.1 tells it.
func madeRing(cells int) api.Ring {
	r := api.Ring{Cells: make([]api.Cell, cells), Put: api.Mark{Bit: 1}, Get: api.Mark{Bit: 1}}
	r.Cells[cells-1].Link = true
	return r
}

func made(cmds, evts int) api.Machine {
	return api.Machine{Cmds: madeRing(cmds), Evts: madeRing(evts)}
}

// numbered is the mark with that number, of all that a ring with so many places has, in the order in which they come.
func numbered(n, places int) api.Mark {
	n %= 2 * places
	return api.Mark{At: n % places, Bit: 1 - n/places}
}

// goneOn is a mark at the next place, as chapter 12 tells it.
func goneOn(m api.Mark, places int) api.Mark {
	if m.At == places-1 {
		return api.Mark{At: 0, Bit: 1 ^ m.Bit}
	}
	return api.Mark{At: m.At + 1, Bit: m.Bit}
}

func packs(t *testing.T, c api.Cmd) {
	t.Helper()
	want := word(c)
	if got, code := Pack(c); got != want || code != api.OK {
		t.Fatalf("Pack(%v): %x %d, not %x", c, got, code, want)
	}
	if got, code := Unpack(want); got != c || code != api.OK {
		t.Fatalf("Unpack(%x): %v %d, not %v", want, got, code, c)
	}
}

func noPack(t *testing.T, c api.Cmd) {
	t.Helper()
	if got, code := Pack(c); got != 0 || code != api.ErrArg {
		t.Fatalf("Pack(%v): %x %d", c, got, code)
	}
}

func noUnpack(t *testing.T, word uint64) {
	t.Helper()
	if got, code := Unpack(word); got != (api.Cmd{}) || code != api.ErrForm {
		t.Fatalf("Unpack(%x): %v %d", word, got, code)
	}
}

func submits(t *testing.T, m api.Machine, c api.Cmd, want api.Machine) {
	t.Helper()
	if got, code := Submit(m, c); code != api.OK || !same(got, want) {
		t.Fatalf("Submit(%v, %v): %v %d, not %v", m, c, got, code, want)
	}
}

func noSubmit(t *testing.T, m api.Machine, c api.Cmd, want api.Errno) {
	t.Helper()
	if got, code := Submit(m, c); code != want || !same(got, m) {
		t.Fatalf("Submit(%v, %v): %v %d, not %d", m, c, got, code, want)
	}
}

func works(t *testing.T, m api.Machine, n int, want api.Machine, times int) {
	t.Helper()
	if got, done := Work(m, n); done != times || !same(got, want) {
		t.Fatalf("Work(%v, %d): %v %d, not %v %d", m, n, got, done, want, times)
	}
}

func noWork(t *testing.T, m api.Machine, n int) {
	t.Helper()
	works(t, m, n, m, 0)
}

func reaps(t *testing.T, m api.Machine, want api.Machine, event api.Event) {
	t.Helper()
	if got, e, ok := Reap(m); !ok || e != event || !same(got, want) {
		t.Fatalf("Reap(%v): %v %v %t, not %v %v", m, got, e, ok, want, event)
	}
}

func noReap(t *testing.T, m api.Machine) {
	t.Helper()
	if got, e, ok := Reap(m); ok || e != (api.Event{}) || !same(got, m) {
		t.Fatalf("Reap(%v): %v %v %t", m, got, e, ok)
	}
}

func plays(t *testing.T, cmds, evts int, deeds []api.Deed, want api.Machine, events []api.Event, codes []api.Errno) {
	t.Helper()
	m, got, told, code := Play(cmds, evts, deeds)
	if code != api.OK || !same(m, want) || !slices.Equal(got, events) || !slices.Equal(told, codes) {
		t.Fatalf("Play(%d, %d, %v): %v %v %v %d, not %v %v %v", cmds, evts, deeds, m, got, told, code, want, events, codes)
	}
}

func noPlay(t *testing.T, cmds, evts int, deeds []api.Deed, want api.Errno) {
	t.Helper()
	if m, got, told, code := Play(cmds, evts, deeds); code != want || !isZero(m) || got != nil || told != nil {
		t.Fatalf("Play(%d, %d, %d deeds): %v %v %v %d, not %d", cmds, evts, len(deeds), m, got, told, code, want)
	}
}

// wrong fails unless all that take a machine leave it as it is.
func wrong(t *testing.T, m api.Machine) {
	t.Helper()
	noSubmit(t, m, api.Cmd{Kind: api.CNoop}, api.ErrForm)
	noSubmit(t, m, api.Cmd{Kind: -1}, api.ErrForm)
	for _, n := range []int{1, 5, 1000} {
		noWork(t, m, n)
	}
	noReap(t, m)
}

// right fails unless something can be done with a machine that is ready.
func right(t *testing.T, m api.Machine) {
	t.Helper()
	if _, code := Submit(m, api.Cmd{Kind: api.CNoop}); code != api.OK {
		t.Fatalf("Submit(%v): %d", m, code)
	}
	if _, done := Work(m, 1); done != 1 {
		t.Fatalf("Work(%v): %d", m, done)
	}
	if _, _, ok := Reap(m); !ok {
		t.Fatalf("Reap(%v): none", m)
	}
}

// ready is a machine that has room for a command, a command to do, room for its event, and an event to reap. Of both rings it needs four cells at least.
func ready(cmds, evts int) api.Machine {
	m := made(cmds, evts)
	m.Cmds.Cells[0] = api.Cell{Word: 1 << 41, Bit: 1}
	m.Cmds.Cells[1] = api.Cell{Word: 2 << 41, Bit: 1}
	m.Cmds.Put.At, m.Cmds.Get.At, m.Cmds.Seen = 2, 1, 1
	m.Evts.Cells[0] = api.Cell{Word: 1, Bit: 1}
	m.Evts.Put.At = 1
	return m
}

func cmd(numbers ...int) api.Cmd {
	var c api.Cmd
	for i, n := range numbers {
		*fields(&c)[i] = n
	}
	return c
}

func fields(c *api.Cmd) []*int { return []*int{&c.Kind, &c.Slot, &c.End, &c.Arg} }

// mosts are the greatest numbers that the parts of a command may be, in the order of fields.
var mosts = []int{15, 15, 31, 4294967295}

// P14.1

func TestPackExamples(t *testing.T) {
	for _, row := range []struct {
		c    api.Cmd
		word uint64
	}{
		{cmd(), 0},
		{cmd(0, 0, 0, 1), 1},
		{cmd(0, 0, 1, 0), 0x1_0000_0000},
		{cmd(0, 1, 0, 0), 0x20_0000_0000},
		{cmd(1, 0, 0, 0), 0x200_0000_0000},
		{cmd(0, 0, 0, 4294967295), 0xffff_ffff},
		{cmd(0, 0, 31, 0), 0x1f_0000_0000},
		{cmd(0, 15, 0, 0), 0x1e0_0000_0000},
		{cmd(15, 0, 0, 0), 0x1e00_0000_0000},
		{cmd(15, 15, 31, 4294967295), 0x1fff_ffff_ffff},
		{cmd(api.CMark, 2, 3, 70), 0x1043_0000_0046},
	} {
		if word(row.c) != row.word {
			t.Error(row)
		}
		packs(t, row.c)
	}
}

func TestPackAll(t *testing.T) {
	for kind := range 16 {
		for slot := range 16 {
			for end := range 32 {
				for _, arg := range []int{0, 1, 2, 70, 65535, 65536, 1<<31 - 1, 1 << 31, 1<<32 - 2, 1<<32 - 1} {
					packs(t, cmd(kind, slot, end, arg))
				}
			}
		}
	}
}

// What is out of its bounds is told whatever the other numbers are.
func TestPackWrong(t *testing.T) {
	for i, most := range mosts {
		for _, n := range append([]int{most + 1, most + 2, 2*most + 1, 2*most + 2, most << 8, most << 16}, far...) {
			for _, c := range []api.Cmd{{}, cmd(mosts...), cmd(-1, -1, -1, -1), cmd(1, 2, 3, 4)} {
				*fields(&c)[i] = n
				if n < 0 || n > most {
					noPack(t, c)
				}
			}
		}
	}
}

func TestUnpack(t *testing.T) {
	for bit := range 64 {
		for _, low := range []uint64{0, 1, 1<<45 - 1, word(cmd(3, 4, 5, 6))} {
			if w := low | 1<<bit; bit < 45 {
				c, code := Unpack(w)
				if code != api.OK || word(c) != w {
					t.Errorf("Unpack(%x): %v %d", w, c, code)
				}
				packs(t, c)
			} else {
				noUnpack(t, w)
			}
		}
	}
	noUnpack(t, 1<<45)
	noUnpack(t, math.MaxUint64)
	d := dice{1}
	for range 20000 {
		w := uint64(d.below(1<<31))<<33 ^ uint64(d.below(1<<31))<<11 ^ uint64(d.below(1<<31))
		if w >= 1<<45 {
			noUnpack(t, w)
		}
		w %= 1 << 45
		c, code := Unpack(w)
		if code != api.OK || word(c) != w {
			t.Fatalf("Unpack(%x): %v %d", w, c, code)
		}
		packs(t, c)
	}
}

// P14.2

func isNew(t *testing.T, cmds, evts int) {
	t.Helper()
	m, code := New(cmds, evts)
	if cmds < 3 || cmds > 64 || evts < 3 || evts > 64 {
		if code != api.ErrArg || !isZero(m) {
			t.Errorf("New(%d, %d): %v %d", cmds, evts, m, code)
		}
		noPlay(t, cmds, evts, nil, api.ErrArg)
		return
	}
	if code != api.OK || !same(m, made(cmds, evts)) {
		t.Errorf("New(%d, %d): %v %d", cmds, evts, m, code)
	}
	plays(t, cmds, evts, nil, m, nil, nil)
}

func TestNew(t *testing.T) {
	for cmds := -2; cmds < 70; cmds++ {
		for evts := -2; evts < 70; evts++ {
			isNew(t, cmds, evts)
		}
	}
	for _, n := range far {
		isNew(t, n, 3)
		isNew(t, 3, n)
		isNew(t, n, n)
	}
}

// rings are those of a machine, each with the least number that no word of it may be.
var rings = []struct {
	of   func(m *api.Machine) *api.Ring
	most uint64
}{
	{func(m *api.Machine) *api.Ring { return &m.Cmds }, 1 << 45},
	{func(m *api.Machine) *api.Ring { return &m.Evts }, 1 << 24},
}

// A machine isn't right with a ring that ring.Check refuses.
func TestRightRings(t *testing.T) {
	spoil := []func(r *api.Ring){
		func(r *api.Ring) { r.Cells = nil },
		func(r *api.Ring) { r.Cells = []api.Cell{} },
		func(r *api.Ring) { r.Cells = r.Cells[:2] },
		func(r *api.Ring) { r.Cells = madeRing(65).Cells },
		func(r *api.Ring) { r.Cells[0].Link = true },
		func(r *api.Ring) { r.Cells[len(r.Cells)-1].Link = false },
		func(r *api.Ring) { r.Cells[len(r.Cells)-1].Word = 1 },
		func(r *api.Ring) { r.Cells[2].Bit = 2 },
		func(r *api.Ring) { r.Cells[0].Bit = -1 },
		func(r *api.Ring) { r.Put.Bit = 2 },
		func(r *api.Ring) { r.Get.Bit = -1 },
		func(r *api.Ring) { r.Put.At = len(r.Cells) - 1 },
		func(r *api.Ring) { r.Get.At = -1 },
		func(r *api.Ring) { r.Get.At = math.MaxInt },
		func(r *api.Ring) { r.Seen = len(r.Cells) - 1 },
		func(r *api.Ring) { r.Seen = -1 },
	}
	for _, sizes := range [][2]int{{4, 4}, {5, 4}, {64, 64}} {
		right(t, ready(sizes[0], sizes[1]))
		for _, side := range rings {
			for i, change := range spoil {
				m := ready(sizes[0], sizes[1])
				change(side.of(&m))
				if ring.Check(*side.of(&m)) == api.OK {
					t.Fatal("nothing is wrong with", i)
				}
				wrong(t, m)
			}
		}
	}
	wrong(t, api.Machine{})
	wrong(t, api.Machine{Cmds: madeRing(3)})
	wrong(t, api.Machine{Evts: madeRing(3)})
}

// A machine isn't right with a board that slots.Check refuses.
func TestRightBoard(t *testing.T) {
	for slot := range 9 {
		for _, s := range []api.Slot{{State: 4}, {State: -1}, {Addr: 1}, {State: api.SlotOn, Addr: 1}, {State: api.SlotCalled, Addr: 1}, {State: api.SlotWorking}} {
			m := ready(4, 4)
			m.Board.Slots[slot] = s
			wrong(t, m)
		}
		m := ready(4, 4)
		m.Board.Slots[slot].State = api.SlotOn
		if slot == 0 {
			wrong(t, m)
		} else {
			right(t, m)
		}
	}
	m := ready(4, 4)
	m.Board.Slots[2] = called(5)
	right(t, m)
	m.Board.Slots[7] = called(5)
	wrong(t, m)
}

func called(addr int) api.Slot {
	s := api.Slot{State: api.SlotCalled, Addr: addr}
	s.Ends[1] = api.EndRuns
	return s
}

// Each cell's word is looked at, whether the cell is of this lap or not.
func TestRightWords(t *testing.T) {
	for _, sizes := range [][2]int{{4, 4}, {5, 7}, {64, 64}} {
		for _, side := range rings {
			first := ready(sizes[0], sizes[1])
			for i := range len(side.of(&first).Cells) - 1 {
				for bit := range 64 {
					m := ready(sizes[0], sizes[1])
					side.of(&m).Cells[i].Word = 1 << bit
					if 1<<bit < side.most {
						right(t, m)
					} else {
						wrong(t, m)
					}
				}
				m := ready(sizes[0], sizes[1])
				side.of(&m).Cells[i].Word = side.most - 1
				right(t, m)
				side.of(&m).Cells[i].Word = math.MaxUint64
				wrong(t, m)
			}
		}
	}
}

// P14.3

func TestSubmit(t *testing.T) {
	m := made(4, 3)
	enable, mark := api.Cmd{Kind: api.CEnable}, cmd(api.CMark, 2, 3, 70)
	want := clone(m)
	want.Cmds.Cells[0] = api.Cell{Word: word(enable), Bit: 1}
	want.Cmds.Put.At = 1
	submits(t, m, enable, want)
	m = clone(want)
	want.Cmds.Cells[1] = api.Cell{Word: word(mark), Bit: 1}
	want.Cmds.Put.At = 2
	submits(t, m, mark, want)
	noSubmit(t, want, enable, api.ErrFull)
	want.Cmds.Get.At = 2
	noSubmit(t, want, enable, api.ErrFull)
	want.Cmds.Seen = 2
	m = clone(want)
	want.Cmds.Cells[2] = api.Cell{Word: word(mark), Bit: 1}
	want.Cmds.Cells[3].Bit = 1
	want.Cmds.Put = api.Mark{}
	submits(t, m, mark, want)
}

// Where several errors apply, the one that is told first is the answer.
func TestSubmitOrder(t *testing.T) {
	full, bad := ready(4, 4), ready(4, 4)
	full.Cmds.Seen = 0
	bad.Cmds.Seen, bad.Evts.Cells[2].Word = 0, 1<<24
	noSubmit(t, full, cmd(1), api.ErrFull)
	noSubmit(t, bad, cmd(1), api.ErrForm)
	for i, most := range mosts {
		for _, n := range append([]int{most + 1}, far...) {
			c := cmd(1)
			*fields(&c)[i] = n
			if 0 <= n && n <= most {
				noSubmit(t, full, c, api.ErrFull)
				continue
			}
			noSubmit(t, ready(4, 4), c, api.ErrArg)
			noSubmit(t, full, c, api.ErrArg)
			noSubmit(t, bad, c, api.ErrForm)
		}
	}
}

// A command that no board knows is put like any other.
func TestSubmitAnyCommand(t *testing.T) {
	for _, c := range []api.Cmd{cmd(), cmd(10), cmd(15, 15, 31, 1<<32-1), cmd(api.CDisable, 9), cmd(api.CStop, 1, 0)} {
		m := made(3, 3)
		want := clone(m)
		want.Cmds.Cells[0], want.Cmds.Put.At = api.Cell{Word: word(c), Bit: 1}, 1
		submits(t, m, c, want)
		noSubmit(t, want, c, api.ErrFull)
	}
}

// P14.4

// unworded is the command of a word, told by quotients alone.
func unworded(w uint64) api.Cmd {
	rest := w / 4294967296
	return cmd(int(rest/512), int(rest/32%16), int(rest%32), int(w%4294967296))
}

// put is the ring with a word more, as P12.2 tells it; there is room.
func put(r api.Ring, w uint64) api.Ring {
	places := len(r.Cells) - 1
	r.Cells = slices.Clone(r.Cells)
	r.Cells[r.Put.At] = api.Cell{Word: w, Bit: r.Put.Bit}
	if r.Put.At == places-1 {
		r.Cells[places].Bit = r.Put.Bit
	}
	r.Put = goneOn(r.Put, places)
	return r
}

func isFull(r api.Ring) bool { return goneOn(r.Put, len(r.Cells)-1).At == r.Seen }

func hasWord(r api.Ring) bool { return r.Cells[r.Get.At].Bit == r.Get.Bit }

// worked is the machine behind Work, told as P14.4 tells it. The machine is right.
func worked(m api.Machine, n int) (api.Machine, int) {
	done := 0
	for done < n && !isFull(m.Evts) && hasWord(m.Cmds) {
		get := m.Cmds.Get
		m.Cmds.Get = goneOn(get, len(m.Cmds.Cells)-1)
		var e api.Event
		m.Board, e.Code, e.Slot = slots.Do(m.Board, unworded(m.Cmds.Cells[get.At].Word))
		e.At = get.At
		m.Evts = put(m.Evts, eventWord(e))
		done++
	}
	return m, done
}

// reaped is the machine behind Reap, told as P14.5 tells it. The machine is right.
func reaped(m api.Machine) (api.Machine, api.Event, bool) {
	if !hasWord(m.Evts) {
		return m, api.Event{}, false
	}
	w := m.Evts.Cells[m.Evts.Get.At].Word
	e := api.Event{Code: int(w % 256), Slot: int(w / 256 % 256), At: int(w / 65536)}
	m.Evts.Get = goneOn(m.Evts.Get, len(m.Evts.Cells)-1)
	m.Evts.Seen = m.Evts.Get.At
	if places := len(m.Cmds.Cells) - 1; e.At == places-1 {
		m.Cmds.Seen = 0
	} else if e.At < places {
		m.Cmds.Seen = e.At + 1
	}
	return m, e, true
}

// tried fails unless all calls do with a right machine what the chapter says.
func tried(t *testing.T, m api.Machine, c api.Cmd, n int) {
	t.Helper()
	if isFull(m.Cmds) {
		noSubmit(t, m, c, api.ErrFull)
	} else {
		want := m
		want.Cmds = put(m.Cmds, word(c))
		submits(t, m, c, want)
	}
	want, done := worked(m, n)
	works(t, m, n, want, done)
	if want, e, ok := reaped(m); ok {
		reaps(t, m, want, e)
	} else {
		noReap(t, m)
	}
}

func TestWorkExample(t *testing.T) {
	m := made(5, 5)
	for _, c := range []api.Cmd{cmd(api.CEnable), cmd(api.CAddress, 1), cmd(api.CDisable, 2)} {
		m, _ = Submit(m, c)
	}
	want := clone(m)
	want.Cmds.Get.At = 1
	want.Evts.Cells[0], want.Evts.Put.At = api.Cell{Word: 0x00_01_01, Bit: 1}, 1
	want.Board.Slots[1].State = api.SlotOn
	works(t, m, 1, want, 1)
	want.Cmds.Get.At = 2
	want.Evts.Cells[1], want.Evts.Put.At = api.Cell{Word: 0x01_01_01, Bit: 1}, 2
	want.Board.Slots[1] = called(1)
	works(t, m, 2, want, 2)
	want.Cmds.Get.At = 3
	want.Evts.Cells[2], want.Evts.Put.At = api.Cell{Word: 0x02_02_00 + api.NotEnabled, Bit: 1}, 3
	for _, n := range []int{3, 4, 5, 62, 63, 64, 200, 999, 1000} {
		works(t, m, n, want, 3)
		noWork(t, want, n)
	}
}

func TestWorkBounds(t *testing.T) {
	m := ready(4, 4)
	for _, n := range append([]int{0, 1001, 1002, 65535, 65536, 65537}, far...) {
		noWork(t, m, n)
	}
	for _, n := range []int{1, 2, 999, 1000} {
		want, done := worked(m, n)
		if done != 1 {
			t.Fatal(done)
		}
		works(t, m, n, want, done)
	}
}

// Without room for its event no command is got, and none is done.
func TestWorkWithoutRoom(t *testing.T) {
	for evts := 3; evts <= 64; evts++ {
		m := made(64, evts)
		for range 62 {
			m, _ = Submit(m, cmd(api.CNoop))
		}
		m, done := Work(m, 1000)
		if done != evts-2 || m.Cmds.Get.At != evts-2 {
			t.Fatalf("%d cells: %d", evts, done)
		}
		noWork(t, m, 1000)
		m.Cmds.Cells[m.Cmds.Get.At].Word = word(cmd(api.CEnable))
		noWork(t, m, 1)
	}
}

// P14.5

func TestReap(t *testing.T) {
	m := ready(5, 4)
	m.Evts.Cells[0].Word = 0x02_ff_7f
	want := clone(m)
	want.Evts.Get.At, want.Evts.Seen, want.Cmds.Seen = 1, 1, 3
	reaps(t, m, want, api.Event{Code: 127, Slot: 255, At: 2})
	noReap(t, want)
	noReap(t, made(3, 3))
}

// Behind the last place is the first one, and what is no place leaves Seen.
func TestReapPlaces(t *testing.T) {
	for cmds := 4; cmds <= 64; cmds++ {
		for at := range 256 {
			for _, seen := range []int{0, 1, cmds - 2} {
				m := ready(cmds, 4)
				m.Cmds.Seen = seen
				m.Evts.Cells[0].Word = uint64(at)<<16 | 0x0305
				want := clone(m)
				want.Evts.Get.At, want.Evts.Seen = 1, 1
				if at < cmds-1 {
					want.Cmds.Seen = (at + 1) % (cmds - 1)
				}
				reaps(t, m, want, api.Event{Code: 5, Slot: 3, At: at})
			}
		}
	}
}

// likely are the numbers from which those of a command are thrown, in the order of fields: mostly such that something is done.
var likely = [][]int{
	{1, 2, 2, 2, 3, 4, 4, 4, 5, 5, 5, 6, 7, 8, 9, 0, 10, 15},
	{1, 2, 3, 4, 1, 2, 3, 8, 9, 0, 15},
	{1, 2, 3, 1, 2, 3, 4, 31, 0},
	{0, 4, 8, 12, 28, 12, 65535, 65536, 1 << 31, 1<<32 - 4, 1, 1<<32 - 1},
}

func (d *dice) cmd() api.Cmd {
	var c api.Cmd
	for i, field := range fields(&c) {
		*field = pick(d, likely[i])
	}
	return c
}

// board is one to which commands lead.
func (d *dice) board() api.Board {
	var b api.Board
	for range d.below(60) {
		b, _, _ = slots.Do(b, d.cmd())
		b = slots.Halt(b, 1+d.below(4), 1+d.below(4))
	}
	return b
}

// ring is a ring that may be, whether turns lead to it or not.
func (d *dice) ring(cells int, w func() uint64) api.Ring {
	r := madeRing(cells)
	for i := range cells - 1 {
		r.Cells[i] = api.Cell{Word: w(), Bit: d.below(2)}
	}
	r.Cells[cells-1].Bit = d.below(2)
	places := cells - 1
	r.Put, r.Get, r.Seen = numbered(d.below(2*places), places), numbered(d.below(2*places), places), d.below(places)
	if d.below(2) == 0 {
		// So that there is a long row of words to get.
		for i := range places {
			r.Cells[i].Bit = r.Get.Bit
			if i < r.Get.At {
				r.Cells[i].Bit = 1 - r.Get.Bit
			}
		}
	}
	return r
}

func TestThrown(t *testing.T) {
	d := dice{14}
	for i := range 20000 {
		cmds, evts := 3+d.below(5), 3+d.below(5)
		if i%4 == 0 {
			cmds, evts = 3+d.below(62), 3+d.below(62)
		}
		m := api.Machine{
			Cmds:  d.ring(cmds, func() uint64 { return word(d.cmd()) }),
			Evts:  d.ring(evts, func() uint64 { return uint64(d.below(1 << 24)) }),
			Board: d.board(),
		}
		tried(t, m, d.cmd(), 1+d.below(pick(&d, []int{2, 5, 70, 1000})))
	}
}

// P14.6

// book counts what was submitted, done and reaped, and never goes round.
type book struct {
	cmds, evts int
	asked      []api.Cmd
	done       []api.Event
	reaped     int
	board      api.Board
	told       []api.Errno
}

func (b *book) deed(deed api.Deed) {
	switch deed.Kind {
	case 1:
		b.told = append(b.told, b.submit(deed.Cmd))
	case 2:
		b.work(deed.N)
	case 3:
		b.reaped = min(b.reaped+1, len(b.done))
	case 4:
		b.board = slots.Halt(b.board, deed.Slot, deed.End)
	}
}

func (b *book) submit(c api.Cmd) api.Errno {
	for i, field := range fields(&c) {
		if *field < 0 || *field > mosts[i] {
			return api.ErrArg
		}
	}
	if len(b.asked)-b.reaped == b.cmds-2 {
		return api.ErrFull
	}
	b.asked = append(b.asked, c)
	return api.OK
}

func (b *book) work(n int) {
	if n > 1000 {
		return
	}
	for ; n > 0 && len(b.done) < len(b.asked) && len(b.done)-b.reaped < b.evts-2; n-- {
		e := api.Event{At: len(b.done) % (b.cmds - 1)}
		b.board, e.Code, e.Slot = slots.Do(b.board, b.asked[len(b.done)])
		b.done = append(b.done, e)
	}
}

// filled is a ring into which these words were put, so many got, and so many known to be got.
func filled(cells int, words []uint64, got, seen int) api.Ring {
	r, places := madeRing(cells), cells-1
	for i, w := range words {
		r.Cells[i%places] = api.Cell{Word: w, Bit: 1 - i/places%2}
	}
	r.Cells[places].Bit = len(words) / places % 2
	r.Put, r.Get, r.Seen = numbered(len(words), places), numbered(got, places), seen%places
	return r
}

// machine is the machine in which that stands.
func (b *book) machine() api.Machine {
	var asked, done []uint64
	for _, c := range b.asked {
		asked = append(asked, word(c))
	}
	for _, e := range b.done {
		done = append(done, eventWord(e))
	}
	return api.Machine{
		Cmds:  filled(b.cmds, asked, len(done), b.reaped),
		Evts:  filled(b.evts, done, b.reaped, b.reaped),
		Board: b.board,
	}
}

// played fails unless Play does as the book does.
func played(t *testing.T, cmds, evts int, deeds []api.Deed) {
	t.Helper()
	b := book{cmds: cmds, evts: evts}
	for _, deed := range deeds {
		b.deed(deed)
	}
	plays(t, cmds, evts, deeds, b.machine(), b.done[:b.reaped], b.told)
}

func submit(numbers ...int) api.Deed { return api.Deed{Kind: api.DSubmit, Cmd: cmd(numbers...)} }

func work(n int) api.Deed { return api.Deed{Kind: api.DWork, N: n} }

func halt(slot, end int) api.Deed { return api.Deed{Kind: api.DHalt, Slot: slot, End: end} }

func reap() api.Deed { return api.Deed{Kind: api.DReap} }

func TestPlayExample(t *testing.T) {
	deeds := []api.Deed{
		submit(api.CEnable), submit(api.CAddress, 1), submit(16), work(9), halt(1, 1),
		submit(api.CStop, 1, 1), reap(), reap(), reap(), work(0), work(1), reap(),
		submit(api.CReset, 1, 1), {Kind: 5, N: 9}, work(1), halt(1, 2), reap(),
	}
	_, events, told, code := Play(5, 4, deeds)
	if code != api.OK || !slices.Equal(told, []api.Errno{api.OK, api.OK, api.ErrArg, api.OK, api.OK}) {
		t.Error(told, code)
	}
	if !slices.Equal(events, []api.Event{{Code: 1, Slot: 1}, {Code: 1, Slot: 1, At: 1}, {Code: api.BadState, Slot: 1, At: 2}, {Code: 1, Slot: 1, At: 3}}) {
		t.Error(events)
	}
	for n := range deeds {
		played(t, 5, 4, deeds[:n])
	}
}

func TestPlayHalt(t *testing.T) {
	deeds := []api.Deed{submit(api.CEnable), submit(api.CEnable), submit(api.CAddress, 2), submit(api.CConfigure, 2, 0, 1<<31|4), work(9)}
	m, _, _, _ := Play(9, 9, deeds)
	if s := m.Board.Slots[2]; s.State != api.SlotWorking || s.Ends[31] != api.EndRuns {
		t.Fatal(s)
	}
	for _, slot := range append([]int{0, 1, 2, 3, 8, 9}, far...) {
		for _, end := range append([]int{0, 1, 2, 3, 31, 32}, far...) {
			want := clone(m)
			if slot == 2 && (end == 1 || end == 2 || end == 31) {
				want.Board.Slots[slot].Ends[end] = api.EndHalted
			}
			plays(t, 9, 9, append(deeds[:5:5], halt(slot, end)), want, nil, []api.Errno{0, 0, 0, 0})
		}
	}
}

// A kind that there isn't does nothing, whatever else the deed has.
func TestPlayOtherKinds(t *testing.T) {
	ahead := []api.Deed{submit(api.CEnable), submit(api.CAddress, 1), work(2), submit(api.CEnable)}
	want, events, told, _ := Play(6, 6, ahead)
	for _, kind := range append([]int{0, 5, 6, 7, 8, 255, 256, 257, 258, 259, 260}, far...) {
		deed := api.Deed{Kind: kind, Cmd: cmd(api.CEnable), N: 1, Slot: 1, End: 1}
		plays(t, 6, 6, append(ahead[:4:4], deed), want, events, told)
	}
}

func TestPlayErrors(t *testing.T) {
	for _, n := range []int{201, 202, 456, 1000, 5000} {
		deeds := slices.Repeat([]api.Deed{submit(api.CNoop)}, n)
		noPlay(t, 3, 3, deeds, api.ErrLarge)
		noPlay(t, 64, 64, make([]api.Deed, n), api.ErrLarge)
		noPlay(t, 2, 3, deeds, api.ErrArg)
		noPlay(t, 3, 65, deeds, api.ErrArg)
	}
	for _, n := range []int{199, 200} {
		plays(t, 3, 3, make([]api.Deed, n), made(3, 3), nil, nil)
		played(t, 4, 5, slices.Repeat([]api.Deed{submit(api.CNoop), work(1), reap()}, 67)[:n])
	}
}

// Each row of deeds, up to so many, of the smallest rings.
func TestPlayAllSmall(t *testing.T) {
	kinds := []api.Deed{submit(api.CEnable), work(1), work(2), reap()}
	for _, sizes := range [][2]int{{3, 3}, {3, 4}, {4, 3}, {4, 4}} {
		rows := [][]api.Deed{nil}
		for range 7 {
			var longer [][]api.Deed
			for _, row := range rows {
				played(t, sizes[0], sizes[1], row)
				for _, deed := range kinds {
					longer = append(longer, append(row[:len(row):len(row)], deed))
				}
			}
			rows = longer
		}
	}
}

func (d *dice) deed(often [4]int) api.Deed {
	deed := api.Deed{Cmd: d.cmd(), N: pick(d, []int{1, 1, 2, 3, 5, 1000, 1001, 0, -1}), Slot: d.below(5), End: d.below(5)}
	if d.below(20) == 0 {
		*pick(d, fields(&deed.Cmd)) = pick(d, far)
	}
	n := d.below(often[0] + often[1] + often[2] + often[3])
	for kind, times := range often {
		if n < times {
			deed.Kind = kind + 1
			break
		}
		n -= times
	}
	return deed
}

func TestPlayThrown(t *testing.T) {
	for seed := range 3000 {
		d := dice{uint64(seed)}
		often := [4]int{1 + d.below(6), 1 + d.below(6), 1 + d.below(6), d.below(3)}
		var deeds []api.Deed
		for range d.below(201) {
			deeds = append(deeds, d.deed(often))
		}
		cmds, evts := 3+d.below(6), 3+d.below(6)
		if seed%3 == 0 {
			cmds, evts = 3+d.below(62), 3+d.below(62)
		}
		played(t, cmds, evts, deeds)
	}
}

// P1

// Whatever a machine is, all calls answer, and leave one that isn't right as it was.
func TestAnyMachine(t *testing.T) {
	d := dice{3}
	odd := append([]int{0, 1, 2, 3, 4}, far...)
	for range 5000 {
		m := ready(4+d.below(3), 4+d.below(3))
		for range 1 + d.below(3) {
			r := rings[d.below(2)].of(&m)
			switch d.below(5) {
			case 0:
				r.Cells = make([]api.Cell, d.below(70))
			case 1:
				*pick(&d, []*int{&r.Put.At, &r.Put.Bit, &r.Get.At, &r.Get.Bit, &r.Seen}) = pick(&d, odd)
			case 2:
				if len(r.Cells) > 0 {
					r.Cells[d.below(len(r.Cells))] = api.Cell{Word: uint64(pick(&d, odd)), Bit: d.below(3), Link: d.below(2) == 0}
				}
			case 3:
				s := &m.Board.Slots[d.below(9)]
				*pick(&d, []*int{&s.State, &s.Addr, &s.Ends[d.below(32)], &s.Marks[d.below(32)]}) = pick(&d, odd)
			case 4:
				*pick(&d, []*api.Ring{&m.Cmds, &m.Evts}) = api.Ring{}
			}
		}
		if isFair(m) {
			tried(t, m, d.cmd(), 1+d.below(4))
		} else {
			wrong(t, m)
		}
	}
}

// isFair tells of a machine whether it is right, in the words ahead of P14.3.
func isFair(m api.Machine) bool {
	if ring.Check(m.Cmds) != api.OK || ring.Check(m.Evts) != api.OK || slots.Check(m.Board) != api.OK {
		return false
	}
	for _, side := range rings {
		for _, cell := range side.of(&m).Cells {
			if cell.Word >= side.most {
				return false
			}
		}
	}
	return true
}

// P2

// roomy has spare room behind its lists.
func roomy(m api.Machine) api.Machine {
	spare := func(list []api.Cell) []api.Cell {
		return append(slices.Clone(list), slices.Repeat([]api.Cell{{Word: 77, Bit: 1}}, 70)...)[:len(list)]
	}
	m.Cmds.Cells, m.Evts.Cells = spare(m.Cmds.Cells), spare(m.Evts.Cells)
	return m
}

// whole is a copy of a list, with the room behind it.
func whole[T any](list []T) []T { return slices.Clone(list[:cap(list)]) }

// fill overwrites all that can be reached from a list.
func fill[T any](list []T, with T) {
	list = list[:cap(list)]
	for i := range list {
		list[i] = with
	}
}

var spoilt = api.Cell{Word: 7, Bit: -7}

var calls = map[string]func(m api.Machine) api.Machine{
	"Submit":       func(m api.Machine) api.Machine { n, _ := Submit(m, cmd(api.CEnable)); return n },
	"wrong Submit": func(m api.Machine) api.Machine { n, _ := Submit(m, cmd(-1)); return n },
	"Work":         func(m api.Machine) api.Machine { n, _ := Work(m, 5); return n },
	"wrong Work":   func(m api.Machine) api.Machine { n, _ := Work(m, 0); return n },
	"Reap":         func(m api.Machine) api.Machine { n, _, _ := Reap(m); return n },
}

func TestAnswersAreNewMemory(t *testing.T) {
	busy, _, _, _ := Play(5, 5, []api.Deed{submit(2), submit(2), submit(2), work(3)})
	full, _, _, _ := Play(3, 3, []api.Deed{submit(2), submit(2)})
	bad := ready(4, 4)
	bad.Cmds.Cells[0].Word = 1 << 45
	for name, call := range calls {
		for _, first := range []api.Machine{{}, made(3, 3), ready(4, 4), ready(64, 64), busy, full, bad} {
			m := roomy(first)
			cmds, evts := whole(m.Cmds.Cells), whole(m.Evts.Cells)
			kept := func() bool {
				return slices.Equal(cmds, whole(m.Cmds.Cells)) && slices.Equal(evts, whole(m.Evts.Cells))
			}
			n := call(m)
			if !kept() {
				t.Errorf("%s changed what was handed in: %v", name, m)
			}
			told := clone(n)
			fill(n.Cmds.Cells, spoilt)
			if !kept() || !slices.Equal(n.Evts.Cells, told.Evts.Cells) {
				t.Errorf("%s answered what was handed in, or one list twice: %v", name, m)
			}
			fill(n.Evts.Cells, spoilt)
			if !kept() {
				t.Errorf("%s answered what was handed in: %v", name, m)
			}
		}
	}
}

// Rings that are handed in as one list are two lists in the answer.
func TestSharedRings(t *testing.T) {
	for name, call := range calls {
		for _, bad := range []bool{false, true} {
			m := made(4, 4)
			m.Evts.Cells = m.Cmds.Cells
			if bad {
				m.Cmds.Seen = -1
			}
			n := call(m)
			told := slices.Clone(n.Evts.Cells)
			fill(n.Cmds.Cells, spoilt)
			if !slices.Equal(told, n.Evts.Cells) {
				t.Errorf("%s answered one list twice", name)
			}
		}
	}
}

func TestNewAndPlayAreNewMemory(t *testing.T) {
	m, _ := New(4, 4)
	n, _ := New(4, 4)
	fill(m.Cmds.Cells, spoilt)
	if !sameRing(m.Evts, madeRing(4)) || !same(n, made(4, 4)) {
		t.Error(m, n)
	}
	deeds := append([]api.Deed{submit(2), submit(2), work(1), reap(), work(1), reap(), submit(16)}, make([]api.Deed, 9)...)[:7]
	ahead := whole(deeds)
	m, events, told, _ := Play(4, 4, deeds)
	n, again, toldAgain, _ := Play(4, 4, deeds)
	fill(m.Cmds.Cells, spoilt)
	if !sameRing(m.Evts, n.Evts) {
		t.Error("Play answered one list twice")
	}
	fill(m.Evts.Cells, spoilt)
	fill(events, api.Event{Code: 99})
	fill(told, 99)
	if !slices.Equal(ahead, whole(deeds)) {
		t.Error("Play changed what was handed in")
	}
	plays(t, 4, 4, deeds, n, again, toldAgain)
}

func TestSameAnswerAgain(t *testing.T) {
	d := dice{5}
	m := ready(5, 5)
	for range 3 {
		tried(t, m, cmd(api.CEnable), 3)
		played(t, 4, 4, []api.Deed{submit(2), work(1), reap(), d.deed([4]int{1, 1, 1, 1})})
		packs(t, cmd(1, 2, 3, 4))
	}
}
