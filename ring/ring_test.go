package ring

import (
	"math"
	"reflect"
	"slices"
	"testing"

	"plugtree/api"
)

// far are numbers that are out of all bounds, many of them such that their lower bits are not.
var far = []int{-1, -2, -3, -64, 65, 66, 100, 128, 255, 256, 257, 259, 65536, 65539, 1 << 31, 1 << 32, 1<<32 + 1, 1<<32 + 2, 1<<32 + 3, 1 << 62, 1<<62 + 3, math.MinInt, math.MinInt + 1, math.MinInt + 3, math.MinInt32, math.MaxInt, math.MaxInt - 1}

// words are as wide as a word can be, and the narrowest.
var words = []uint64{0, 1, 2, 255, 256, 1<<32 - 1, 1 << 32, 1 << 63, math.MaxUint64 - 1, math.MaxUint64}

// dice are numbers that are the same in each run.
type dice struct{ n uint64 }

func (d *dice) below(most int) int {
	d.n = d.n*6364136223846793005 + 1442695040888963407
	return int(d.n>>33) % most
}

func same(a, b api.Ring) bool {
	return slices.Equal(a.Cells, b.Cells) && a.Put == b.Put && a.Get == b.Get && a.Seen == b.Seen
}

func isZero(r api.Ring) bool { return reflect.DeepEqual(r, api.Ring{}) }

func clone(r api.Ring) api.Ring {
	r.Cells = slices.Clone(r.Cells)
	return r
}

// made is a new ring, written out as P12.1 tells it.
func made(cells int) api.Ring {
	r := api.Ring{Put: api.Mark{At: 0, Bit: 1}, Get: api.Mark{At: 0, Bit: 1}}
	for range cells - 1 {
		r.Cells = append(r.Cells, api.Cell{})
	}
	r.Cells = append(r.Cells, api.Cell{Link: true})
	return r
}

func check(t *testing.T, r api.Ring, want api.Errno) {
	t.Helper()
	if code := Check(r); code != want {
		t.Errorf("Check(%v): %d, not %d", r, code, want)
	}
}

// refused fails unless all that take a ring tell the same error of it.
func refused(t *testing.T, r api.Ring, want api.Errno) {
	t.Helper()
	check(t, r, want)
	noPut(t, r, 1, want)
	if s, word, ok, code := Get(r); code != want || word != 0 || ok || !isZero(s) {
		t.Errorf("Get(%v): %v %d %t %d, not %d", r, s, word, ok, code, want)
	}
	if s, code := Learn(r); code != want || !isZero(s) {
		t.Errorf("Learn(%v): %v %d, not %d", r, s, code, want)
	}
}

func isPut(t *testing.T, r api.Ring, word uint64, want api.Ring) {
	t.Helper()
	if s, code := Put(r, word); code != api.OK || !same(s, want) {
		t.Fatalf("Put(%v, %d): %v %d, not %v", r, word, s, code, want)
	}
}

func noPut(t *testing.T, r api.Ring, word uint64, want api.Errno) {
	t.Helper()
	if s, code := Put(r, word); code != want || !isZero(s) {
		t.Fatalf("Put(%v, %d): %v %d, not %d", r, word, s, code, want)
	}
}

func isGot(t *testing.T, r api.Ring, word uint64, want api.Ring) {
	t.Helper()
	if s, got, ok, code := Get(r); code != api.OK || !ok || got != word || !same(s, want) {
		t.Fatalf("Get(%v): %v %d %t %d, not %d %v", r, s, got, ok, code, word, want)
	}
}

// noGet fails unless there is no word to get.
func noGet(t *testing.T, r api.Ring) {
	t.Helper()
	if s, got, ok, code := Get(r); code != api.OK || ok || got != 0 || !same(s, r) {
		t.Fatalf("Get(%v): %v %d %t %d, not the ring as it was", r, s, got, ok, code)
	}
}

func isLearned(t *testing.T, r api.Ring, want api.Ring) {
	t.Helper()
	if s, code := Learn(r); code != api.OK || !same(s, want) {
		t.Fatalf("Learn(%v): %v %d, not %v", r, s, code, want)
	}
}

func play(t *testing.T, cells int, turns []api.Turn, want api.Ring, got []uint64) {
	t.Helper()
	if r, list, code := Play(cells, turns); code != api.OK || !same(r, want) || !slices.Equal(list, got) {
		t.Fatalf("Play(%d, %v): %v %v %d, not %v %v", cells, turns, r, list, code, want, got)
	}
}

func noPlay(t *testing.T, cells int, turns []api.Turn, want api.Errno) {
	t.Helper()
	if r, list, code := Play(cells, turns); code != want || list != nil || !isZero(r) {
		t.Fatalf("Play(%d, %v): %v %v %d, not %d", cells, turns, r, list, code, want)
	}
}

// turns has a turn for each sign: p, g, l. The words are 1, 2, 3 and so on, one for each turn, whatever it is.
func turns(signs string) []api.Turn {
	var list []api.Turn
	for i, sign := range []byte(signs) {
		kind := map[byte]int{'p': api.TPut, 'g': api.TGet, 'l': api.TLearn}[sign]
		list = append(list, api.Turn{Kind: kind, Word: uint64(i + 1)})
	}
	return list
}

// P12.1

func TestNew(t *testing.T) {
	for n := -10; n <= 200; n++ {
		r, code := New(n)
		if n < 3 || n > 64 {
			if code != api.ErrArg || !isZero(r) {
				t.Errorf("New(%d): %v %d", n, r, code)
			}
			continue
		}
		if code != api.OK || !same(r, made(n)) {
			t.Errorf("New(%d): %v %d", n, r, code)
		}
		check(t, r, api.OK)
		noGet(t, r)
	}
	for _, n := range far {
		if r, code := New(n); code != api.ErrArg || !isZero(r) {
			t.Errorf("New(%d): %v %d", n, r, code)
		}
	}
}

func TestCheckCount(t *testing.T) {
	for n := 1; n <= 70; n++ {
		if n < 3 || n > 64 {
			refused(t, made(n), api.ErrArg)
		} else {
			check(t, made(n), api.OK)
		}
	}
	refused(t, api.Ring{}, api.ErrArg)
	refused(t, api.Ring{Cells: []api.Cell{}}, api.ErrArg)
	refused(t, made(1000), api.ErrArg)
}

func TestCheckLink(t *testing.T) {
	for _, n := range []int{3, 4, 5, 63, 64} {
		for i := range n {
			r := made(n)
			r.Cells[i].Link = !r.Cells[i].Link
			refused(t, r, api.ErrForm)
			r.Cells[n-1].Link = false
			refused(t, r, api.ErrForm)
		}
	}
	refused(t, api.Ring{Cells: make([]api.Cell, 3)}, api.ErrForm)
}

func TestCheckBits(t *testing.T) {
	bad := append([]int{2, 3, 4}, far...)
	for _, n := range []int{3, 4, 5, 63, 64} {
		for i := range n {
			r := made(n)
			r.Cells[i].Bit = 1
			check(t, r, api.OK)
			for _, bit := range bad {
				r.Cells[i].Bit = bit
				refused(t, r, api.ErrForm)
			}
		}
		for _, mark := range marks {
			r := made(n)
			for bit := range 2 {
				mark(&r).Bit = bit
				check(t, r, api.OK)
			}
			for _, bit := range bad {
				mark(&r).Bit = bit
				refused(t, r, api.ErrForm)
			}
		}
	}
}

var marks = []func(r *api.Ring) *api.Mark{
	func(r *api.Ring) *api.Mark { return &r.Put },
	func(r *api.Ring) *api.Mark { return &r.Get },
}

func TestCheckWords(t *testing.T) {
	for _, n := range []int{3, 4, 64} {
		for i := range n {
			for _, word := range words {
				r := made(n)
				r.Cells[i].Word = word
				if i == n-1 && word != 0 {
					refused(t, r, api.ErrForm)
				} else {
					check(t, r, api.OK)
				}
			}
		}
	}
}

func TestCheckPlaces(t *testing.T) {
	fields := []func(r *api.Ring) *int{
		func(r *api.Ring) *int { return &r.Put.At },
		func(r *api.Ring) *int { return &r.Get.At },
		func(r *api.Ring) *int { return &r.Seen },
	}
	for _, n := range []int{3, 4, 5, 63, 64} {
		for _, field := range fields {
			r := made(n)
			for at := range n - 1 {
				*field(&r) = at
				check(t, r, api.OK)
			}
			for _, at := range append([]int{n - 1, n, n + 1}, far...) {
				*field(&r) = at
				refused(t, r, api.ErrForm)
			}
		}
	}
}

func TestCheckOrder(t *testing.T) {
	for _, n := range []int{1, 2, 65} {
		r := made(n)
		r.Cells[0] = api.Cell{Word: 1, Bit: 2, Link: true}
		r.Cells[n-1] = api.Cell{Word: 1, Bit: -1}
		r.Put, r.Get, r.Seen = api.Mark{At: -1, Bit: 2}, api.Mark{At: 70, Bit: 3}, n
		refused(t, r, api.ErrArg)
	}
	refused(t, api.Ring{Seen: -1, Put: api.Mark{At: 1, Bit: 2}}, api.ErrArg)
	r := made(3)
	r.Put, r.Seen = api.Mark{At: 1, Bit: 1}, 0
	noPut(t, r, 1, api.ErrFull)
	r.Get.Bit = 2
	noPut(t, r, 1, api.ErrForm)
}

// P12.2

func TestPut(t *testing.T) {
	one, zero := api.Mark{Bit: 1}, api.Mark{}
	cells := func(link int, pairs ...uint64) []api.Cell {
		var list []api.Cell
		for i := 0; i < len(pairs); i += 2 {
			list = append(list, api.Cell{Word: pairs[i], Bit: int(pairs[i+1])})
		}
		return append(list, api.Cell{Bit: link, Link: true})
	}
	r := made(4)
	isPut(t, r, 5, api.Ring{Cells: cells(0, 5, 1, 0, 0, 0, 0), Put: api.Mark{At: 1, Bit: 1}, Get: one})
	r, _ = Put(r, 5)
	isPut(t, r, 6, api.Ring{Cells: cells(0, 5, 1, 6, 1, 0, 0), Put: api.Mark{At: 2, Bit: 1}, Get: one})
	r, _ = Put(r, 6)
	noPut(t, r, 7, api.ErrFull)
	r.Get.At = 1
	noPut(t, r, 7, api.ErrFull)
	r.Seen = 1
	isPut(t, r, 7, api.Ring{Cells: cells(1, 5, 1, 6, 1, 7, 1), Put: zero, Get: api.Mark{At: 1, Bit: 1}, Seen: 1})
	r, _ = Put(r, 7)
	noPut(t, r, 8, api.ErrFull)
	r.Seen = 2
	isPut(t, r, 8, api.Ring{Cells: cells(1, 8, 0, 6, 1, 7, 1), Put: api.Mark{At: 1}, Get: api.Mark{At: 1, Bit: 1}, Seen: 2})
}

// The bit of the link is turned with each lap, and not ahead of its end.
func TestPutLink(t *testing.T) {
	for n := 3; n <= 64; n++ {
		r := made(n)
		for lap := range 5 {
			for i := range n - 1 {
				if bit := r.Cells[n-1].Bit; bit != lap%2 {
					t.Fatalf("the link of %d has %d at place %d of lap %d", n, bit, i, lap)
				}
				r.Seen = (i + 2) % (n - 1)
				if n == 3 {
					r.Seen = i
				}
				s, code := Put(r, uint64(100*lap+i))
				if code != api.OK || s.Cells[i] != (api.Cell{Word: uint64(100*lap + i), Bit: 1 - lap%2}) {
					t.Fatal(s, code)
				}
				r = s
			}
		}
	}
}

func TestWords(t *testing.T) {
	for _, word := range words {
		r := made(3)
		s := clone(r)
		s.Cells[0], s.Put.At = api.Cell{Word: word, Bit: 1}, 1
		isPut(t, r, word, s)
		u := clone(s)
		u.Get.At = 1
		isGot(t, s, word, u)
		play(t, 3, []api.Turn{{Kind: api.TPut, Word: word}, {Kind: api.TGet, Word: 9}}, u, []uint64{word})
	}
}

// A ring of n cells has room for n - 2 words at a time.
func TestRoom(t *testing.T) {
	for n := 3; n <= 64; n++ {
		for start := range 2 * n {
			r := made(n)
			for range start {
				r = passed(t, r)
			}
			for i := range n - 2 {
				s, code := Put(r, uint64(i))
				if code != api.OK {
					t.Fatalf("word %d of %d cells: %d", i, n, code)
				}
				r = s
			}
			noPut(t, r, 1, api.ErrFull)
		}
	}
}

// passed is the ring behind a word that was put, got and heard of.
func passed(t *testing.T, r api.Ring) api.Ring {
	t.Helper()
	r, code := Put(r, 77)
	if code != api.OK {
		t.Fatal(code)
	}
	r, word, ok, code := Get(r)
	if word != 77 || !ok || code != api.OK {
		t.Fatal(word, ok, code)
	}
	r, code = Learn(r)
	if code != api.OK {
		t.Fatal(code)
	}
	return r
}

// P12.3

func TestGetAndLearn(t *testing.T) {
	r := made(4)
	noGet(t, r)
	isLearned(t, r, r)
	r, _ = Put(r, 5)
	r, _ = Put(r, 6)
	isLearned(t, r, r)
	s := clone(r)
	s.Get.At = 1
	isGot(t, r, 5, s)
	u := clone(s)
	u.Get.At = 2
	isGot(t, s, 6, u)
	noGet(t, u)
	v := clone(u)
	v.Seen = 2
	isLearned(t, u, v)
	isLearned(t, v, v)
	v.Cells[2] = api.Cell{Word: 7, Bit: 1}
	w := clone(v)
	w.Get = api.Mark{}
	isGot(t, v, 7, w)
	noGet(t, w)
	w.Cells[0].Bit = 0
	x := clone(w)
	x.Get.At = 1
	isGot(t, w, 5, x)
}

// A word that is got stays in its cell, and the cell's bit tells that it was of the lap ahead.
func TestGetLeavesCells(t *testing.T) {
	for n := 3; n <= 64; n++ {
		r := made(n)
		for i := range 3 * n {
			s, code := Put(r, uint64(i))
			if code != api.OK {
				t.Fatal(code)
			}
			u, word, ok, code := Get(s)
			if code != api.OK || !ok || word != uint64(i) || !slices.Equal(s.Cells, u.Cells) || s.Put != u.Put || s.Seen != u.Seen {
				t.Fatal(n, i, u, word, ok, code)
			}
			noGet(t, u)
			if r, code = Learn(u); code != api.OK || !slices.Equal(r.Cells, u.Cells) || r.Put != u.Put || r.Get != u.Get || r.Seen != u.Get.At {
				t.Fatal(r, code)
			}
		}
	}
}

// number tells which mark it is, of all that a ring with so many places has, in the order in which they come.
func number(m api.Mark, places int) int {
	if m.Bit == 1 {
		return m.At
	}
	return m.At + places
}

// numbered is the mark with that number.
func numbered(n, places int) api.Mark {
	n %= 2 * places
	return api.Mark{At: n % places, Bit: 1 - n/places}
}

// tried fails unless Put, Get and Learn do with a ring what P12.2 and P12.3 say.
func tried(t *testing.T, r api.Ring, word uint64) {
	t.Helper()
	check(t, r, api.OK)
	places := len(r.Cells) - 1
	want := clone(r)
	want.Cells[r.Put.At].Word, want.Cells[r.Put.At].Bit = word, r.Put.Bit
	want.Put = numbered(number(r.Put, places)+1, places)
	if want.Put.Bit != r.Put.Bit {
		want.Cells[places].Bit = r.Put.Bit
	}
	if (r.Put.At+1)%places == r.Seen {
		noPut(t, r, word, api.ErrFull)
	} else {
		isPut(t, r, word, want)
	}
	want = clone(r)
	want.Get = numbered(number(r.Get, places)+1, places)
	if r.Cells[r.Get.At].Bit == r.Get.Bit {
		isGot(t, r, r.Cells[r.Get.At].Word, want)
	} else {
		noGet(t, r)
	}
	want = clone(r)
	want.Seen = r.Get.At
	isLearned(t, r, want)
}

// Each ring of three to five cells that Check lets through, whether turns lead to it or not.
func TestAllSmall(t *testing.T) {
	for n := 3; n <= 5; n++ {
		places := n - 1
		for bits := range 1 << n {
			r := made(n)
			for i := range n {
				r.Cells[i].Bit = bits >> i & 1
				r.Cells[i].Word = uint64(10 + i)
			}
			r.Cells[places].Word = 0
			for put := range 2 * places {
				for get := range 2 * places {
					for seen := range places {
						r.Put, r.Get, r.Seen = numbered(put, places), numbered(get, places), seen
						tried(t, r, 99)
					}
				}
			}
		}
	}
}

func TestThrown(t *testing.T) {
	d := dice{12}
	for range 3000 {
		n := 3 + d.below(62)
		r := made(n)
		for i := range n - 1 {
			r.Cells[i] = api.Cell{Word: words[d.below(len(words))] + uint64(d.below(5)), Bit: d.below(2)}
		}
		r.Cells[n-1].Bit = d.below(2)
		r.Put, r.Get, r.Seen = numbered(d.below(2*n-2), n-1), numbered(d.below(2*n-2), n-1), d.below(n-1)
		tried(t, r, words[d.below(len(words))])
	}
}

// Next goes on as a mark does, and from nowhere but a place.
func TestNext(t *testing.T) {
	for n := range 70 {
		r := api.Ring{Cells: make([]api.Cell, n)}
		for at := range n - 1 {
			if next, ok := Next(r, at); !ok || next != (at+1)%(n-1) {
				t.Errorf("%d cells: behind %d: %d %t", n, at, next, ok)
			}
		}
		for _, at := range append([]int{n - 1, n, n + 1}, far...) {
			if 0 <= at && at < n-1 {
				continue
			}
			if next, ok := Next(r, at); ok || next != 0 {
				t.Errorf("%d cells: behind %d: %d %t", n, at, next, ok)
			}
		}
	}
}

// P12.4

// book counts what was put, got and learned, and never goes round.
type book struct {
	cells     int
	put       []uint64
	got, seen int
}

func (b *book) turn(turn api.Turn) {
	switch turn.Kind {
	case api.TPut:
		if len(b.put)-b.seen < b.cells-2 {
			b.put = append(b.put, turn.Word)
		}
	case api.TGet:
		b.got = min(b.got+1, len(b.put))
	case api.TLearn:
		b.seen = b.got
	}
}

// ring is the ring in which that stands.
func (b *book) ring() api.Ring {
	r := made(b.cells)
	places := b.cells - 1
	for i, word := range b.put {
		r.Cells[i%places] = api.Cell{Word: word, Bit: 1 - i/places%2}
	}
	r.Cells[places].Bit = len(b.put) / places % 2
	r.Put, r.Get, r.Seen = numbered(len(b.put), places), numbered(b.got, places), b.seen%places
	return r
}

// played fails unless Play does as the book does, and as Put, Get and Learn do, one after the other.
func played(t *testing.T, cells int, list []api.Turn) {
	t.Helper()
	b := book{cells: cells}
	r := made(cells)
	for _, turn := range list {
		b.turn(turn)
		switch turn.Kind {
		case api.TPut:
			if s, code := Put(r, turn.Word); code == api.OK {
				r = s
			} else if code != api.ErrFull {
				t.Fatal(code)
			}
		case api.TGet:
			r, _, _, _ = Get(r)
		case api.TLearn:
			r, _ = Learn(r)
		}
	}
	if !same(r, b.ring()) {
		t.Fatalf("%d %v: %v, not %v", cells, list, r, b.ring())
	}
	play(t, cells, list, r, b.put[:b.got])
}

func TestPlayExamples(t *testing.T) {
	for n := 3; n <= 64; n++ {
		play(t, n, nil, made(n), nil)
		play(t, n, []api.Turn{}, made(n), nil)
		play(t, n, turns("gllgg"), made(n), nil)
	}
	got := func(signs string) []uint64 {
		_, list, code := Play(3, turns(signs))
		if code != api.OK {
			t.Error(signs, code)
		}
		return list
	}
	for signs, want := range map[string][]uint64{
		"p": nil, "pg": {1}, "pgg": {1}, "ppg": {1}, "ppgg": {1}, "pgpg": {1}, "pglpg": {1, 4}, "pglppg": {1, 4}, "pglpgpg": {1, 4}, "pglpglpg": {1, 4, 7}, "plpgpg": {1}, "gpg": {2}, "pglpgglpgg": {1, 4, 8},
	} {
		if list := got(signs); !slices.Equal(list, want) {
			t.Error(signs, list, want)
		}
	}
}

// Each row of turns, up to so many, of the smallest rings.
func TestPlayAllSmall(t *testing.T) {
	for _, most := range []struct{ cells, turns int }{{3, 9}, {4, 9}, {5, 8}} {
		rows := []string{""}
		for range most.turns {
			var longer []string
			for _, row := range rows {
				played(t, most.cells, turns(row))
				longer = append(longer, row+"p", row+"g", row+"l")
			}
			rows = longer
		}
	}
}

func TestPlayThrown(t *testing.T) {
	for seed := range 400 {
		d := dice{uint64(seed)}
		var list []api.Turn
		puts, gets := 1+d.below(8), 1+d.below(8)
		for range d.below(1001) {
			turn := api.Turn{Kind: api.TLearn, Word: uint64(d.below(1<<31))<<33 + uint64(d.below(1<<31))}
			if n := d.below(puts + gets + 2); n < puts {
				turn.Kind = api.TPut
			} else if n < puts+gets {
				turn.Kind = api.TGet
			}
			list = append(list, turn)
		}
		played(t, 3+d.below(1+d.below(62)), list)
	}
}

// The words of turns that put nothing are of no weight.
func TestPlayOtherWords(t *testing.T) {
	list := turns("pgglpglppg")
	_, got, _ := Play(4, list)
	want, _, _ := Play(4, list)
	for i := range list {
		if list[i].Kind != api.TPut {
			list[i].Word = math.MaxUint64
		}
	}
	play(t, 4, list, want, got)
}

func TestPlayErrors(t *testing.T) {
	for _, kind := range append([]int{0, 4, 5}, far...) {
		noPlay(t, 3, []api.Turn{{Kind: kind}}, api.ErrArg)
		for _, at := range []int{0, 1, 500, 999} {
			list := make([]api.Turn, 1000)
			for i := range list {
				list[i].Kind = 1 + i%3
			}
			list[at].Kind = kind
			noPlay(t, 64, list, api.ErrArg)
		}
	}
	for _, count := range []int{1001, 1002, 2000, 65536} {
		list := make([]api.Turn, count)
		noPlay(t, 3, list, api.ErrLarge)
		for i := range list {
			list[i].Kind = api.TPut
		}
		noPlay(t, 64, list, api.ErrLarge)
		noPlay(t, 2, list, api.ErrArg)
		noPlay(t, 65, list, api.ErrArg)
	}
	most := make([]api.Turn, 1000)
	for i := range most {
		most[i] = api.Turn{Kind: 1 + i%3, Word: uint64(i)}
	}
	played(t, 64, most)
	for _, cells := range append([]int{0, 1, 2}, far...) {
		noPlay(t, cells, nil, api.ErrArg)
		noPlay(t, cells, turns("pgl"), api.ErrArg)
		noPlay(t, cells, []api.Turn{{}}, api.ErrArg)
	}
}

// P2

// roomy is a ring whose list has spare room, which is filled.
func roomy(r api.Ring) api.Ring {
	list := append(slices.Clone(r.Cells), make([]api.Cell, 4)...)
	for i := range 4 {
		list[len(r.Cells)+i] = api.Cell{Word: uint64(70 + i), Bit: 80 + i, Link: true}
	}
	r.Cells = list[:len(r.Cells)]
	return r
}

func whole[T any](list []T) []T { return slices.Clone(list[:cap(list)]) }

// fill overwrites all that can be reached from a list.
func fill[T any](list []T, with T) {
	list = list[:cap(list)]
	for i := range list {
		list[i] = with
	}
}

var spoilt = api.Cell{Word: 7, Bit: -7}

func TestAnswersAreNewMemory(t *testing.T) {
	calls := map[string]func(r api.Ring) api.Ring{
		"Put":   func(r api.Ring) api.Ring { s, _ := Put(r, 3); return s },
		"Get":   func(r api.Ring) api.Ring { s, _, _, _ := Get(r); return s },
		"Learn": func(r api.Ring) api.Ring { s, _ := Learn(r); return s },
		"Check": func(r api.Ring) api.Ring { Check(r); return api.Ring{} },
	}
	for name, call := range calls {
		for _, n := range []int{1, 2, 3, 4, 5, 64, 65} {
			for at := range 2 * n {
				for seen := range min(n, 3) {
					r := roomy(made(n))
					r.Put, r.Get, r.Seen = numbered(at, n), numbered(at+n/2, n), seen
					ahead := whole(r.Cells)
					s := call(r)
					if !slices.Equal(ahead, whole(r.Cells)) {
						t.Errorf("%s changed what was handed in: %v", name, r)
					}
					fill(s.Cells, spoilt)
					if !slices.Equal(ahead, whole(r.Cells)) {
						t.Errorf("%s answered what was handed in: %v", name, r)
					}
				}
			}
		}
	}
}

func TestNewAndPlayAreNewMemory(t *testing.T) {
	for _, n := range []int{3, 4, 64} {
		a, _ := New(n)
		b, _ := New(n)
		fill(a.Cells, spoilt)
		if !same(b, made(n)) {
			t.Error(b)
		}
		list := append(turns("pgglpglppg"), turns("ppp")...)[:10]
		ahead := whole(list)
		r, got, _ := Play(n, list)
		s, again, _ := Play(n, list)
		if !slices.Equal(ahead, whole(list)) {
			t.Error("Play changed what was handed in")
		}
		fill(r.Cells, spoilt)
		fill(got, 12345)
		if !slices.Equal(ahead, whole(list)) {
			t.Error("Play answered what was handed in")
		}
		play(t, n, list, s, again)
	}
}

func TestSameAnswerAgain(t *testing.T) {
	r := made(3)
	s, _ := Put(r, 5)
	u, _, _, _ := Get(s)
	for range 3 {
		isPut(t, r, 5, s)
		noPut(t, s, 6, api.ErrFull)
		isGot(t, s, 5, u)
		noGet(t, u)
		isLearned(t, s, s)
		played(t, 3, turns("pglpgl"))
	}
}
