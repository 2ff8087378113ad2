package slots

import (
	"math"
	"testing"

	"plugtree/api"
)

// far are numbers that are out of all bounds, many of them such that their lower bits are not.
var far = []int{-1, -2, -3, -8, -64, -65535, -1 << 31, -1 << 32, 1 << 32, 1<<32 + 1, 1<<32 + 2, 1<<32 + 3, 1<<32 + 4, 1<<33 + 8, 1 << 40, 1<<62 + 1, 1<<62 + 4, math.MinInt, math.MinInt + 1, math.MinInt + 2, math.MinInt + 4, math.MaxInt, math.MaxInt - 3}

// near are the bounds of all numbers of a slot, and those beside them.
var near = []int{0, 1, 2, 3, 4, 5, 7, 8, 9, 30, 31, 32, 33, 126, 127, 128, 129, 255, 256, 257, 65534, 65535, 65536, 65537, 1 << 31}

var endKinds = []int{api.CReset, api.CStop, api.CMark, api.CRing}

var slotKinds = append([]int{api.CDisable, api.CAddress, api.CConfigure}, endKinds...)

// dice are numbers that are the same in each run.
type dice struct{ n uint64 }

func (d *dice) below(most int) int {
	d.n = d.n*6364136223846793005 + 1442695040888963407
	return int(d.n>>33) % most
}

func (d *dice) of(list []int) int { return list[d.below(len(list))] }

func all(lists ...[]int) []int {
	var out []int
	for _, list := range lists {
		out = append(out, list...)
	}
	return out
}

func on() api.Slot { return api.Slot{State: api.SlotOn} }

// with is a slot that has an address; its endpoints are told as threes: which, its state, its mark.
func with(state, addr int, threes ...int) api.Slot {
	s := api.Slot{State: state, Addr: addr}
	for i := 0; i < len(threes); i += 3 {
		s.Ends[threes[i]], s.Marks[threes[i]] = threes[i+1], threes[i+2]
	}
	return s
}

func called(addr int) api.Slot { return with(api.SlotCalled, addr, 1, api.EndRuns, 0) }

// busy has endpoints of all states.
func busy(addr int) api.Slot {
	return with(api.SlotWorking, addr, 1, api.EndStopped, 65535, 2, api.EndRuns, 7, 3, api.EndHalted, 8, 4, api.EndStopped, 9, 30, api.EndHalted, 1, 31, api.EndRuns, 65535)
}

// board has these slots, from 1 on.
func board(list ...api.Slot) api.Board {
	var b api.Board
	copy(b.Slots[1:], list)
	return b
}

// put is the board with another slot there.
func put(b api.Board, slot int, s api.Slot) api.Board {
	b.Slots[slot] = s
	return b
}

// goods are boards with which nothing is wrong.
func goods() []api.Board {
	return []api.Board{
		board(),
		board(on()),
		board(called(1)),
		board(busy(127)),
		board(api.Slot{}, on(), called(2), busy(1)),
		board(busy(3), api.Slot{}, called(127), on(), api.Slot{}, busy(2), api.Slot{}, called(1)),
		board(on(), on(), on(), on(), on(), on(), on(), on()),
		board(called(1), called(2), called(3), called(4), called(5), called(6), called(7), called(8)),
		board(busy(120), busy(127), busy(1), busy(64), busy(63), busy(9), busy(8), busy(2)),
		board(with(api.SlotWorking, 5, 1, api.EndHalted, 0, 31, api.EndStopped, 0), with(api.SlotCalled, 4, 1, api.EndStopped, 65535)),
	}
}

// bads are boards that Check refuses, each for another reason.
func bads() []api.Board {
	return []api.Board{
		{Slots: [9]api.Slot{on()}},
		{Slots: [9]api.Slot{called(1)}},
		{Slots: [9]api.Slot{0: {Addr: 1}, 2: called(2)}},
		board(api.Slot{State: 4}),
		board(api.Slot{State: -1}, on()),
		board(api.Slot{Addr: 3}, on()),
		board(api.Slot{State: api.SlotOn, Addr: 3}),
		board(on(), called(0)),
		board(on(), called(128)),
		board(called(1), on(), busy(1)),
		board(with(api.SlotCalled, 1)),
		board(with(api.SlotWorking, 1, 2, api.EndRuns, 0)),
		board(with(api.SlotCalled, 1, 1, api.EndRuns, 0, 2, api.EndRuns, 0)),
		board(with(api.SlotWorking, 1, 1, api.EndRuns, 0)),
		board(with(api.SlotCalled, 1, 0, api.EndRuns, 0, 1, api.EndRuns, 0)),
		board(with(api.SlotCalled, 1, 1, api.EndRuns, 65536)),
		board(with(api.SlotCalled, 1, 1, api.EndRuns, 0, 2, api.EndNone, 1)),
		board(with(api.SlotCalled, 1, 0, api.EndNone, 1, 1, api.EndRuns, 0)),
		board(with(api.SlotWorking, 1, 1, api.EndRuns, 0, 31, 4, 0)),
	}
}

// numbers are all that a board is made of.
func numbers(b *api.Board) []*int {
	var list []*int
	for i := range b.Slots {
		s := &b.Slots[i]
		list = append(list, &s.State, &s.Addr)
		for end := range 32 {
			list = append(list, &s.Ends[end], &s.Marks[end])
		}
	}
	return list
}

// fair tells of a board what Check has to, promise P13.1 word by word.
func fair(b api.Board) bool {
	if (b.Slots[0] != api.Slot{}) {
		return false
	}
	addrs := map[int]int{}
	for _, s := range b.Slots[1:] {
		addrs[s.Addr]++
	}
	for _, s := range b.Slots[1:] {
		if s.State < 0 || s.State > 3 {
			return false
		}
		rest := s
		rest.State = 0
		if s.State < 2 {
			if (rest != api.Slot{}) {
				return false
			}
			continue
		}
		if s.Addr < 1 || s.Addr > 127 || addrs[s.Addr] != 1 || !fairEnds(s) {
			return false
		}
	}
	return true
}

func fairEnds(s api.Slot) bool {
	behind := 0
	for end := range 32 {
		if s.Ends[end] < 0 || s.Ends[end] > 3 || s.Marks[end] < 0 || s.Marks[end] > 65535 {
			return false
		}
		if s.Ends[end] == 0 && s.Marks[end] != 0 {
			return false
		}
		if end > 1 && s.Ends[end] != 0 {
			behind++
		}
	}
	return s.Ends[0] == 0 && s.Ends[1] != 0 && (s.State == 3) == (behind > 0)
}

// likely is the code and the slot that P13.2 asks for, row by row from the first word on.
func likely(b api.Board, c api.Cmd) (int, int) {
	if !fair(b) {
		return 0, 0
	}
	if c.Kind == 1 {
		return 1, 0
	}
	if c.Kind == 2 {
		for i, s := range b.Slots {
			if i > 0 && s.State == 0 {
				return 1, i
			}
		}
		return 9, 0
	}
	if c.Kind < 1 || c.Kind > 9 || c.Slot < 1 || c.Slot > 8 {
		return 5, 0
	}
	s := b.Slots[c.Slot]
	rows := []struct {
		kinds string // the kinds of which it is told, a digit each
		holds bool
		code  int
	}{
		{"3456789", s.State == 0, 11},
		{"4", s.State != 1, 19},
		{"5", c.Arg < 0 || c.Arg > 4294967295 || c.Arg%4 != 0, 17},
		{"5", s.State == 1, 19},
		{"6789", c.End < 1 || c.End > 31, 5},
		{"6789", s.Ends[c.End&31] == 0, 12},
		{"6", s.Ends[c.End&31] != 2, 19},
		{"7", s.Ends[c.End&31] != 1, 19},
		{"8", c.Arg < 0 || c.Arg > 65535, 17},
		{"8", s.Ends[c.End&31] != 3, 19},
		{"9", s.Ends[c.End&31] == 2, 19},
	}
	for _, row := range rows {
		for _, kind := range row.kinds {
			if int(kind-'0') == c.Kind && row.holds {
				return row.code, c.Slot
			}
		}
	}
	return 1, c.Slot
}

// after is the board behind a command that is done with Success at that slot.
func after(b api.Board, c api.Cmd, slot int) api.Board {
	s := &b.Slots[slot]
	switch c.Kind {
	case 2:
		s.State = 1
	case 3:
		*s = api.Slot{}
	case 4:
		var has [10]bool
		for _, other := range b.Slots {
			if other.Addr < 10 {
				has[other.Addr] = true
			}
		}
		s.State, s.Ends[1] = 2, 1
		for addr := 9; addr > 0; addr-- {
			if !has[addr] {
				s.Addr = addr
			}
		}
	case 5:
		configuredOne(s, uint32(c.Arg))
	case 6, 7:
		s.Ends[c.End] = 3
	case 8:
		s.Marks[c.End] = c.Arg
	case 9:
		s.Ends[c.End] = 1
	}
	return b
}

// configuredOne builds the slot anew, out of what stays of it.
func configuredOne(s *api.Slot, set uint32) {
	old := *s
	*s = with(2, old.Addr, 1, old.Ends[1], old.Marks[1])
	for end := 31; end > 1; end-- {
		if set&(1<<end) != 0 {
			s.State = 3
			s.Ends[end], s.Marks[end] = max(old.Ends[end], 1), old.Marks[end]
		}
	}
}

func check(t *testing.T, b api.Board, want api.Errno) {
	t.Helper()
	if code := Check(b); code != want {
		t.Fatalf("Check(%v): %d, not %d", b, code, want)
	}
}

// looked holds Check against fair.
func looked(t *testing.T, b api.Board) {
	t.Helper()
	if fair(b) {
		check(t, b, api.OK)
	} else {
		check(t, b, api.ErrForm)
	}
}

func do(t *testing.T, b api.Board, c api.Cmd, want api.Board, code, slot int) {
	t.Helper()
	if x, gotCode, gotSlot := Do(b, c); gotCode != code || gotSlot != slot || x != want {
		t.Fatalf("Do(%v, %v): %v %d %d, not %v %d %d", b, c, x, gotCode, gotSlot, want, code, slot)
	}
}

// noDo fails unless the board is as it was, with that code.
func noDo(t *testing.T, b api.Board, c api.Cmd, code, slot int) {
	t.Helper()
	do(t, b, c, b, code, slot)
}

// tried holds Do against likely and after, and is the board behind it.
func tried(t *testing.T, b api.Board, c api.Cmd) api.Board {
	t.Helper()
	code, slot := likely(b, c)
	want := b
	if code == 1 {
		want = after(b, c, slot)
	}
	do(t, b, c, want, code, slot)
	return want
}

func halt(t *testing.T, b api.Board, slot, end int, want api.Board) {
	t.Helper()
	if x := Halt(b, slot, end); x != want {
		t.Fatalf("Halt(%v, %d, %d): %v, not %v", b, slot, end, x, want)
	}
}

// P13.1

func TestCheckGoods(t *testing.T) {
	for _, b := range goods() {
		check(t, b, api.OK)
	}
	for slot := 1; slot <= 8; slot++ {
		for _, s := range []api.Slot{on(), called(1), called(127), busy(1), busy(127)} {
			check(t, put(api.Board{}, slot, s), api.OK)
		}
	}
}

func TestCheckBads(t *testing.T) {
	for _, b := range bads() {
		check(t, b, api.ErrForm)
	}
}

// Whatever is said of slot 0, it is no slot, not even a right one.
func TestCheckSlotZero(t *testing.T) {
	for _, b := range goods() {
		for _, s := range []api.Slot{on(), called(100), busy(100)} {
			check(t, put(b, 0, s), api.ErrForm)
		}
		for i, n := range numbers(&b)[:66] {
			*n = 1
			check(t, b, api.ErrForm)
			if *n = 0; Check(b) != api.OK {
				t.Fatal(i)
			}
		}
	}
}

func TestCheckState(t *testing.T) {
	for slot := 1; slot <= 8; slot++ {
		for _, s := range []api.Slot{{}, called(1), busy(1)} {
			for _, n := range all(near[4:], far) {
				s.State = n
				check(t, put(api.Board{}, slot, s), api.ErrForm)
			}
		}
		check(t, put(api.Board{}, slot, api.Slot{State: api.SlotCalled}), api.ErrForm)
		check(t, put(api.Board{}, slot, api.Slot{State: api.SlotWorking}), api.ErrForm)
	}
}

// A slot that is off, or only on, has nothing else.
func TestCheckOffAndOn(t *testing.T) {
	for state := api.SlotOff; state <= api.SlotOn; state++ {
		for slot := 1; slot <= 8; slot++ {
			b := put(board(), slot, api.Slot{State: state})
			for _, n := range numbers(&b)[66*slot+1 : 66*slot+66] {
				for _, m := range []int{1, 2, 3, 127, 65535, -1, 1 << 32, math.MinInt} {
					*n = m
					check(t, b, api.ErrForm)
				}
				*n = 0
			}
			check(t, b, api.OK)
		}
	}
}

func TestCheckAddr(t *testing.T) {
	for addr := -5; addr <= 300; addr++ {
		want := api.ErrForm
		if 1 <= addr && addr <= 127 {
			want = api.OK
		}
		for slot := 1; slot <= 8; slot++ {
			check(t, put(api.Board{}, slot, called(addr)), want)
			check(t, put(api.Board{}, slot, busy(addr)), want)
		}
	}
	for _, addr := range far {
		check(t, board(called(addr)), api.ErrForm)
		check(t, board(on(), busy(addr)), api.ErrForm)
	}
}

func TestCheckAddrTwice(t *testing.T) {
	for one := 1; one <= 8; one++ {
		for other := 1; other <= 8; other++ {
			if one == other {
				continue
			}
			for _, addr := range []int{1, 2, 8, 64, 127} {
				check(t, put(put(board(), one, called(addr)), other, busy(addr)), api.ErrForm)
				check(t, put(put(board(), one, called(addr)), other, called(addr)), api.ErrForm)
				check(t, put(put(board(), one, busy(addr)), other, busy(addr)), api.ErrForm)
				check(t, put(put(board(), one, called(addr)), other, busy(addr%127+1)), api.OK)
			}
			full := goods()[7]
			full.Slots[one].Addr = other
			check(t, full, api.ErrForm)
			full.Slots[other].Addr = one
			check(t, full, api.OK)
		}
	}
}

func TestCheckEnds(t *testing.T) {
	for _, state := range []int{api.SlotCalled, api.SlotWorking} {
		for end := range 32 {
			for _, is := range all(near, far) {
				for _, mark := range []int{0, 1, 65535, 65536, -1, 1 << 32, math.MinInt} {
					s := with(state, 9, 1, api.EndRuns, 0)
					s.Ends[end], s.Marks[end] = is, mark
					looked(t, board(on(), s))
					s.Ends[17] = api.EndHalted
					looked(t, board(on(), s))
				}
			}
		}
	}
}

// What makes a slot a working one is any endpoint behind the first two, in any state.
func TestCheckWorking(t *testing.T) {
	for first := api.EndRuns; first <= api.EndStopped; first++ {
		check(t, board(with(api.SlotCalled, 1, 1, first, 3)), api.OK)
		check(t, board(with(api.SlotWorking, 1, 1, first, 3)), api.ErrForm)
		for end := 2; end <= 31; end++ {
			for is := api.EndRuns; is <= api.EndStopped; is++ {
				check(t, board(with(api.SlotCalled, 1, 1, first, 3, end, is, 0)), api.ErrForm)
				check(t, board(with(api.SlotWorking, 1, 1, first, 3, end, is, 0)), api.OK)
				check(t, board(with(api.SlotWorking, 1, end, is, 0)), api.ErrForm)
			}
		}
	}
}

func TestCheckMarks(t *testing.T) {
	for end := 1; end <= 31; end++ {
		for is := api.EndRuns; is <= api.EndStopped; is++ {
			s := with(api.SlotWorking, 1, 1, api.EndRuns, 0, 2, api.EndRuns, 0)
			s.Ends[end] = is
			for _, mark := range []int{0, 1, 255, 256, 32767, 32768, 65534, 65535} {
				s.Marks[end] = mark
				check(t, board(s), api.OK)
			}
			for _, mark := range all([]int{65536, 65537, 1 << 31}, far) {
				s.Marks[end] = mark
				check(t, board(s), api.ErrForm)
			}
		}
	}
}

// Each number of boards that are right is made another one.
func TestCheckEachNumber(t *testing.T) {
	for _, b := range goods() {
		for _, n := range numbers(&b) {
			was := *n
			for _, m := range all(near, far) {
				*n = m
				looked(t, b)
			}
			*n = was
		}
		check(t, b, api.OK)
	}
}

// All slots that are made of small numbers, some of them out of their bounds.
func TestCheckAllSmall(t *testing.T) {
	for state := -1; state <= 4; state++ {
		for addr := 0; addr <= 1; addr++ {
			for n := range 6 * 6 * 6 * 2 * 2 * 2 * 2 {
				s := api.Slot{State: state, Addr: addr}
				s.Marks[0], s.Marks[1], s.Marks[2], s.Ends[0] = n&1, n>>1&1, n>>2&1, n>>3&1
				s.Ends[1], s.Ends[2], s.Ends[31] = n>>4%6-1, n>>4/6%6-1, n>>4/36-1
				looked(t, board(s))
			}
		}
	}
}

// P13.2

func TestDoNoop(t *testing.T) {
	for _, b := range goods() {
		for _, n := range all(near, far) {
			noDo(t, b, api.Cmd{Kind: api.CNoop}, api.Success, 0)
			noDo(t, b, api.Cmd{Kind: api.CNoop, Slot: n, End: n, Arg: n}, api.Success, 0)
		}
	}
}

func TestDoEnable(t *testing.T) {
	var b api.Board
	for slot := 1; slot <= 8; slot++ {
		do(t, b, api.Cmd{Kind: api.CEnable}, put(b, slot, on()), api.Success, slot)
		b = put(b, slot, on())
	}
	noDo(t, b, api.Cmd{Kind: api.CEnable}, api.NoSlots, 0)
	for _, full := range goods()[6:9] {
		noDo(t, full, api.Cmd{Kind: api.CEnable, Slot: 3}, api.NoSlots, 0)
		for slot := 1; slot <= 8; slot++ {
			gap := put(full, slot, api.Slot{})
			for _, n := range all(near, far) {
				do(t, gap, api.Cmd{Kind: api.CEnable, Slot: n, End: n, Arg: n}, put(full, slot, on()), api.Success, slot)
			}
			for other := slot + 1; other <= 8; other++ {
				two := put(gap, other, api.Slot{})
				do(t, two, api.Cmd{Kind: api.CEnable, Slot: other}, put(two, slot, on()), api.Success, slot)
			}
		}
	}
}

// A kind that there isn't is told ahead of all that is wrong with the slot.
func TestDoNoKind(t *testing.T) {
	for _, b := range goods() {
		for _, kind := range all([]int{0, 10, 11, 12, 15, 16, 17, 18, 255, 256, 257, 258, 261, 265}, far) {
			for slot := -1; slot <= 10; slot++ {
				noDo(t, b, api.Cmd{Kind: kind, Slot: slot, End: 1}, api.TrbError, 0)
			}
		}
	}
}

func TestDoNoSlot(t *testing.T) {
	for _, b := range goods() {
		for _, kind := range slotKinds {
			for _, slot := range all([]int{0, 9, 10, 15, 16, 17, 255, 256, 257, 65537}, far) {
				noDo(t, b, api.Cmd{Kind: kind, Slot: slot}, api.TrbError, 0)
				noDo(t, b, api.Cmd{Kind: kind, Slot: slot, End: 1, Arg: 4}, api.TrbError, 0)
				noDo(t, b, api.Cmd{Kind: kind, Slot: slot, End: 99, Arg: -1}, api.TrbError, 0)
			}
		}
	}
}

func TestDoNotEnabled(t *testing.T) {
	for slot := 1; slot <= 8; slot++ {
		for _, b := range goods() {
			off := put(b, slot, api.Slot{})
			for _, kind := range slotKinds {
				for _, n := range all(near, far) {
					noDo(t, off, api.Cmd{Kind: kind, Slot: slot, End: n, Arg: n}, api.NotEnabled, slot)
				}
			}
		}
	}
}

func TestDoDisable(t *testing.T) {
	for slot := 1; slot <= 8; slot++ {
		for _, b := range goods() {
			for _, s := range []api.Slot{on(), called(100), busy(101)} {
				for _, n := range []int{0, 1, 99, -1} {
					do(t, put(b, slot, s), api.Cmd{Kind: api.CDisable, Slot: slot, End: n, Arg: n}, put(b, slot, api.Slot{}), api.Success, slot)
				}
			}
		}
	}
}

func TestDoAddress(t *testing.T) {
	for _, c := range []struct {
		addrs []int // of the slots from 1 on
		want  int
	}{
		{nil, 1}, {[]int{1}, 2}, {[]int{2}, 1}, {[]int{127}, 1}, {[]int{3, 2, 1}, 4}, {[]int{1, 3}, 2}, {[]int{3, 1}, 2}, {[]int{2, 4, 1}, 3},
		{[]int{1, 2, 3, 4, 5, 6, 7}, 8}, {[]int{7, 6, 5, 4, 3, 2, 1}, 8}, {[]int{7, 6, 5, 3, 2, 1, 8}, 4}, {[]int{2, 3, 4, 5, 6, 7, 8}, 1}, {[]int{1, 2, 3, 4, 5, 6, 127}, 7}, {[]int{8, 1, 2}, 3},
	} {
		var b api.Board
		for i, addr := range c.addrs {
			b = put(b, i+1, called(addr))
		}
		slot := len(c.addrs) + 1
		for _, n := range []int{0, 1, 4, 99, -1, math.MinInt} {
			do(t, put(b, slot, on()), api.Cmd{Kind: api.CAddress, Slot: slot, End: n, Arg: n}, put(b, slot, called(c.want)), api.Success, slot)
		}
	}
	for slot := 1; slot <= 8; slot++ {
		for _, s := range []api.Slot{called(5), busy(5), with(api.SlotCalled, 6, 1, api.EndHalted, 4)} {
			noDo(t, put(board(), slot, s), api.Cmd{Kind: api.CAddress, Slot: slot}, api.BadState, slot)
		}
		do(t, put(goods()[7], slot, on()), api.Cmd{Kind: api.CAddress, Slot: slot}, goods()[7], api.Success, slot)
	}
}

// An address that was given back is the next one again.
func TestDoAddressAgain(t *testing.T) {
	b := goods()[7]
	for slot := 1; slot <= 8; slot++ {
		for _, kind := range []int{api.CDisable, api.CEnable, api.CAddress} {
			b, _, _ = Do(b, api.Cmd{Kind: kind, Slot: slot})
		}
		if b != goods()[7] {
			t.Fatal(slot, b)
		}
	}
}

func TestDoConfigure(t *testing.T) {
	conf := func(arg int) api.Cmd { return api.Cmd{Kind: api.CConfigure, Slot: 2, Arg: arg} }
	from := func(s api.Slot, arg int, want api.Slot) {
		t.Helper()
		do(t, board(called(1), s), conf(arg), board(called(1), want), api.Success, 2)
	}
	from(called(7), 0, called(7))
	from(called(7), 4, with(api.SlotWorking, 7, 1, api.EndRuns, 0, 2, api.EndRuns, 0))
	from(called(7), 12, with(api.SlotWorking, 7, 1, api.EndRuns, 0, 2, api.EndRuns, 0, 3, api.EndRuns, 0))
	from(called(7), 1<<31, with(api.SlotWorking, 7, 1, api.EndRuns, 0, 31, api.EndRuns, 0))
	from(busy(7), 0, with(api.SlotCalled, 7, 1, api.EndStopped, 65535))
	from(busy(7), 1<<31|1<<30|16|8|4, busy(7))
	from(busy(7), 8|32, with(api.SlotWorking, 7, 1, api.EndStopped, 65535, 3, api.EndHalted, 8, 5, api.EndRuns, 0))
	from(busy(7), 64, with(api.SlotWorking, 7, 1, api.EndStopped, 65535, 6, api.EndRuns, 0))
	from(with(api.SlotCalled, 7, 1, api.EndHalted, 3), 4, with(api.SlotWorking, 7, 1, api.EndHalted, 3, 2, api.EndRuns, 0))
	full := api.Slot{State: api.SlotWorking, Addr: 7}
	for end := 1; end <= 31; end++ {
		full.Ends[end] = api.EndRuns
	}
	from(called(7), 1<<32-4, full)
	from(full, 0, called(7))
}

func TestDoConfigureEachEnd(t *testing.T) {
	for end := 2; end <= 31; end++ {
		for is := api.EndNone; is <= api.EndStopped; is++ {
			for _, set := range []int{0, 1 << end, 1<<32 - 4, (1<<32 - 4) &^ (1 << end)} {
				s := busy(3)
				s.Ends[end], s.Marks[end] = is, 77*is
				tried(t, board(on(), s), api.Cmd{Kind: api.CConfigure, Slot: 2, Arg: set})
			}
		}
	}
}

// A set that can't be is told ahead of a slot that has no address.
func TestDoConfigureWrong(t *testing.T) {
	for _, s := range []api.Slot{on(), called(3), busy(3)} {
		for _, arg := range all([]int{1, 2, 3, 5, 6, 7, 13, 1<<32 - 1, 1<<32 - 2, 1<<32 - 3, 1<<31 + 1, 1 << 33, 1<<33 + 4, -4, -8, math.MinInt}, far) {
			noDo(t, board(s), api.Cmd{Kind: api.CConfigure, Slot: 1, Arg: arg}, api.BadParam, 1)
		}
	}
	for _, arg := range []int{0, 4, 8, 1 << 31, 1<<32 - 4} {
		noDo(t, board(on()), api.Cmd{Kind: api.CConfigure, Slot: 1, Arg: arg}, api.BadState, 1)
	}
}

// What comes of each command to an endpoint, in each of its states.
func TestDoEndKinds(t *testing.T) {
	const no = -1 // BadState
	for _, c := range []struct{ kind, runs, halted, stopped int }{
		{api.CReset, no, api.EndStopped, no},
		{api.CStop, api.EndStopped, no, no},
		{api.CMark, no, no, api.EndStopped},
		{api.CRing, api.EndRuns, no, api.EndRuns},
	} {
		for end := 1; end <= 31; end++ {
			for is, next := range map[int]int{api.EndRuns: c.runs, api.EndHalted: c.halted, api.EndStopped: c.stopped} {
				s := busy(4)
				s.Ends[end], s.Marks[end] = is, 300
				cmd := api.Cmd{Kind: c.kind, Slot: 5, End: end, Arg: 400}
				b := put(goods()[0], 5, s)
				if next == no {
					noDo(t, b, cmd, api.BadState, 5)
					continue
				}
				s.Ends[end] = next
				if c.kind == api.CMark {
					s.Marks[end] = 400
				}
				do(t, b, cmd, put(b, 5, s), api.Success, 5)
			}
		}
	}
}

func TestDoNoEnd(t *testing.T) {
	for _, s := range []api.Slot{on(), called(3), busy(3)} {
		for _, kind := range endKinds {
			for _, end := range all([]int{0, 32, 33, 34, 63, 64, 65, 66, 128, 256, 257}, far) {
				for _, arg := range []int{0, 4, -1, 65536} {
					noDo(t, board(s), api.Cmd{Kind: kind, Slot: 1, End: end, Arg: arg}, api.TrbError, 1)
				}
			}
		}
	}
}

// That there is no such endpoint is told ahead of a mark that can't be.
func TestDoEndOff(t *testing.T) {
	for _, s := range []api.Slot{on(), called(3), busy(3)} {
		for _, kind := range endKinds {
			for end := 1; end <= 31; end++ {
				for _, arg := range []int{0, 4, -1, 65536} {
					if s.Ends[end] == api.EndNone {
						noDo(t, board(s), api.Cmd{Kind: kind, Slot: 1, End: end, Arg: arg}, api.EndOff, 1)
					}
				}
			}
		}
	}
}

// A mark that can't be is told ahead of an endpoint that isn't stopped, and is nothing to the other kinds.
func TestDoMark(t *testing.T) {
	cmd := func(kind, end, arg int) api.Cmd { return api.Cmd{Kind: kind, Slot: 1, End: end, Arg: arg} }
	for _, arg := range all([]int{65536, 65537, 70000, 1 << 31}, far) {
		for _, end := range []int{1, 2, 3, 4, 30, 31} {
			noDo(t, board(busy(3)), cmd(api.CMark, end, arg), api.BadParam, 1)
		}
		noDo(t, board(busy(3)), cmd(api.CRing, 2, arg), api.Success, 1)
		tried(t, board(busy(3)), cmd(api.CReset, 3, arg))
		tried(t, board(busy(3)), cmd(api.CStop, 2, arg))
		tried(t, board(busy(3)), cmd(api.CRing, 4, arg))
	}
	for _, arg := range []int{0, 1, 255, 256, 65534, 65535} {
		for _, end := range []int{2, 3, 30, 31} {
			noDo(t, board(busy(3)), cmd(api.CMark, end, arg), api.BadState, 1)
		}
		s := busy(3)
		s.Marks[4] = arg
		do(t, board(busy(3)), cmd(api.CMark, 4, arg), board(s), api.Success, 1)
		s = busy(3)
		s.Marks[1] = arg
		do(t, board(busy(3)), cmd(api.CMark, 1, arg), board(s), api.Success, 1)
	}
}

func TestDoRefused(t *testing.T) {
	for _, b := range bads() {
		for kind := -1; kind <= 11; kind++ {
			for slot := -1; slot <= 10; slot++ {
				noDo(t, b, api.Cmd{Kind: kind, Slot: slot, End: 1, Arg: 4}, 0, 0)
			}
		}
		for _, n := range far {
			noDo(t, b, api.Cmd{Kind: n, Slot: n, End: n, Arg: n}, 0, 0)
		}
	}
}

// Each kind at each slot and each endpoint of boards that are right.
func TestDoAll(t *testing.T) {
	for _, b := range goods() {
		for kind := 0; kind <= 10; kind++ {
			for slot := 0; slot <= 9; slot++ {
				for end := 0; end <= 32; end++ {
					for _, arg := range []int{0, 3, 4, 65535, 65536, 1 << 32} {
						tried(t, b, api.Cmd{Kind: kind, Slot: slot, End: end, Arg: arg})
					}
				}
			}
		}
	}
}

// thrown is a command, most often one that is about something that is there.
func thrown(d *dice) api.Cmd {
	c := api.Cmd{Kind: 1 + d.below(9), Slot: 1 + d.below(8), End: 1 + d.below(5), Arg: d.below(1<<16) &^ 3}
	switch d.below(12) {
	case 0:
		c.Kind = d.of(all(near, far))
	case 1:
		c.Slot = d.of(all(near, far))
	case 2:
		c.End = d.of(all(near, far))
	case 3:
		c.Arg = d.of(all(near, far))
	case 4:
		c.Arg = d.below(1<<30) << 2
	case 5:
		c.Kind = api.CAddress
	}
	if c.Kind == api.CDisable && d.below(3) > 0 {
		c.Kind = api.CConfigure
	}
	return c
}

// However it goes on, the board is right, and is the one that the promises tell.
func TestGoesOn(t *testing.T) {
	counts := map[int]int{}
	for seed := range 60 {
		d := dice{uint64(seed)}
		var b api.Board
		for range 400 {
			c := thrown(&d)
			code, _ := likely(b, c)
			counts[code]++
			b = tried(t, b, c)
			if d.below(3) == 0 {
				b = Halt(b, 1+d.below(8), 1+d.below(5))
			}
			check(t, b, api.OK)
		}
	}
	for _, code := range []int{api.Success, api.TrbError, api.NoSlots, api.NotEnabled, api.EndOff, api.BadParam, api.BadState} {
		if counts[code] < 50 {
			t.Error("the commands are too much alike:", counts)
		}
	}
}

// P13.3

func TestHalt(t *testing.T) {
	for slot := 1; slot <= 8; slot++ {
		for _, s := range []api.Slot{{}, on(), called(100), busy(101)} {
			for _, b := range goods() {
				b = put(b, slot, s)
				for end := 1; end <= 31; end++ {
					want := b
					if s.Ends[end] == api.EndRuns {
						want.Slots[slot].Ends[end] = api.EndHalted
					}
					halt(t, b, slot, end, want)
				}
			}
		}
	}
}

func TestHaltEachState(t *testing.T) {
	for end := 1; end <= 31; end++ {
		for is := api.EndRuns; is <= api.EndStopped; is++ {
			s := busy(9)
			s.Ends[end], s.Marks[end] = is, 500
			b := board(called(1), s)
			if is == api.EndRuns {
				s.Ends[end] = api.EndHalted
			}
			halt(t, b, 2, end, board(called(1), s))
		}
	}
}

func TestHaltNone(t *testing.T) {
	for _, b := range goods() {
		for _, n := range all([]int{0, 32, 33, 34, 63, 64, 65, 257, 65537}, far) {
			for other := -1; other <= 33; other++ {
				halt(t, b, n, other, b)
				halt(t, b, other, n, b)
			}
			halt(t, b, n, n, b)
		}
		for end := -1; end <= 33; end++ {
			halt(t, b, 0, end, b)
			halt(t, b, 9, end, b)
		}
	}
}

func TestHaltRefused(t *testing.T) {
	for _, b := range bads() {
		for slot := -1; slot <= 10; slot++ {
			for end := -1; end <= 33; end++ {
				halt(t, b, slot, end, b)
			}
		}
	}
}

// P2

func TestSameAnswerAgain(t *testing.T) {
	b := board(on(), busy(1))
	for range 3 {
		do(t, b, api.Cmd{Kind: api.CEnable}, board(on(), busy(1), on()), api.Success, 3)
		do(t, b, api.Cmd{Kind: api.CAddress, Slot: 1}, board(called(2), busy(1)), api.Success, 1)
		do(t, b, api.Cmd{Kind: api.CDisable, Slot: 2}, board(on()), api.Success, 2)
		noDo(t, b, api.Cmd{Kind: api.CReset, Slot: 2, End: 2}, api.BadState, 2)
		check(t, b, api.OK)
	}
}
