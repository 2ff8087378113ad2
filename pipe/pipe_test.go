package pipe

import (
	"math"
	"reflect"
	"slices"
	"strconv"
	"strings"
	"testing"

	"plugtree/api"
)

// far are numbers that are out of all bounds, many of them such that their lower bits are not.
var far = []int{-1, -2, -5, -255, -256, 6, 7, 8, 9, 255, 256, 257, 65537, 1 << 32, 1<<32 + 1, 1<<40 + 3, 1<<62 + 1, math.MinInt, math.MinInt + 1, math.MinInt + 5, math.MinInt32, math.MaxInt}

var fates = []int{api.FGood, api.FLost, api.FDeaf, api.FBusy, api.FStall}

// dice are numbers that are the same in each run.
type dice struct{ n uint64 }

func (d *dice) below(most int) int {
	d.n = d.n*6364136223846793005 + 1442695040888963407
	return int(d.n>>33) % most
}

// named are texts of which no two are the same.
func named(prefix string, count int) []string {
	list := make([]string, count)
	for i := range list {
		list[i] = prefix + strconv.Itoa(i)
	}
	return list
}

func same(p, q api.Pipe) bool {
	return p.Send == q.Send && p.Want == q.Want && slices.Equal(p.Left, q.Left) && slices.Equal(p.Got, q.Got)
}

func isZero(p api.Pipe) bool { return reflect.DeepEqual(p, api.Pipe{}) }

func step(t *testing.T, p api.Pipe, fate int, want api.Pipe) {
	t.Helper()
	if got, code := Step(p, fate); code != api.OK || !same(got, want) {
		t.Errorf("Step(%v, %d): %v %d, not %v", p, fate, got, code, want)
	}
}

func noStep(t *testing.T, p api.Pipe, fate int, want api.Errno) {
	t.Helper()
	if got, code := Step(p, fate); code != want || !isZero(got) {
		t.Errorf("Step of %d, %d, %d, %d texts, fate %d: %v %d, not %d", p.Send, p.Want, len(p.Left), len(p.Got), fate, got, code, want)
	}
}

func run(t *testing.T, texts []string, fates []int, want api.Pipe) {
	t.Helper()
	if got, code := Run(texts, fates); code != api.OK || !same(got, want) {
		t.Errorf("Run(%q, %v): %v %d, not %v", texts, fates, got, code, want)
	}
}

func noRun(t *testing.T, texts []string, fates []int, want api.Errno) {
	t.Helper()
	if got, code := Run(texts, fates); code != want || !isZero(got) {
		t.Errorf("Run of %d texts, %d fates: %v %d, not %d", len(texts), len(fates), got, code, want)
	}
}

// P9.1

func TestNew(t *testing.T) {
	for count := range 500 {
		texts := named("t", count)
		p, code := New(texts)
		if count > 200 {
			if code != api.ErrLarge || !isZero(p) {
				t.Errorf("New of %d texts: %v %d", count, p, code)
			}
			continue
		}
		if code != api.OK || !same(p, api.Pipe{Left: texts}) {
			t.Errorf("New of %d texts: %v %d", count, p, code)
		}
	}
	for _, texts := range [][]string{nil, {}, {""}, {"", ""}, {"\x00\xff", "a", "a"}, {strings.Repeat("x", 1<<20)}} {
		if p, code := New(texts); code != api.OK || !same(p, api.Pipe{Left: texts}) {
			t.Errorf("New(%q): %v %d", texts, p, code)
		}
	}
	if p, code := New(make([]string, 1<<20)); code != api.ErrLarge || !isZero(p) {
		t.Error(code)
	}
}

// P9.2

func TestStepTaken(t *testing.T) {
	left, got := []string{"c", "d"}, []string{"a", "b"}
	for bit := range 2 {
		p := api.Pipe{Send: bit, Want: bit, Left: left, Got: got}
		more := []string{"a", "b", "c"}
		step(t, p, api.FGood, api.Pipe{Send: 1 - bit, Want: 1 - bit, Left: []string{"d"}, Got: more})
		step(t, p, api.FDeaf, api.Pipe{Send: bit, Want: 1 - bit, Left: left, Got: more})
		for _, fate := range []int{api.FLost, api.FBusy, api.FStall} {
			step(t, p, fate, p)
		}
	}
}

func TestStepDropped(t *testing.T) {
	left, got := []string{"c", "d"}, []string{"a", "b"}
	for bit := range 2 {
		p := api.Pipe{Send: bit, Want: 1 - bit, Left: left, Got: got}
		step(t, p, api.FGood, api.Pipe{Send: 1 - bit, Want: 1 - bit, Left: []string{"d"}, Got: got})
		for _, fate := range []int{api.FDeaf, api.FLost, api.FBusy, api.FStall} {
			step(t, p, fate, p)
		}
	}
}

// It is the bit that tells whether a text came before, and not the text.
func TestStepSameTexts(t *testing.T) {
	for bit := range 2 {
		p := api.Pipe{Send: bit, Want: bit, Left: []string{"a", "a"}, Got: []string{"a"}}
		step(t, p, api.FGood, api.Pipe{Send: 1 - bit, Want: 1 - bit, Left: []string{"a"}, Got: []string{"a", "a"}})
		p = api.Pipe{Send: bit, Want: 1 - bit, Left: []string{"new", "b"}}
		step(t, p, api.FGood, api.Pipe{Send: 1 - bit, Want: 1 - bit, Left: []string{"b"}})
		p = api.Pipe{Send: bit, Want: bit, Left: []string{""}}
		step(t, p, api.FGood, api.Pipe{Send: 1 - bit, Want: 1 - bit, Got: []string{""}})
		step(t, p, api.FDeaf, api.Pipe{Send: bit, Want: 1 - bit, Left: []string{""}, Got: []string{""}})
	}
}

func TestStepNothingLeft(t *testing.T) {
	for _, got := range [][]string{nil, {}, {"a"}, {"a", "b"}, named("g", 200)} {
		for bits := range 4 {
			for _, fate := range fates {
				p := api.Pipe{Send: bits % 2, Want: bits / 2, Got: got}
				step(t, p, fate, p)
				p.Left = []string{}
				step(t, p, fate, p)
			}
		}
	}
}

func TestStepFate(t *testing.T) {
	for n := -20; n < 40; n++ {
		p := api.Pipe{Left: []string{"a"}}
		if 1 <= n && n <= 5 {
			if _, code := Step(p, n); code != api.OK {
				t.Errorf("fate %d: %d", n, code)
			}
			continue
		}
		noStep(t, p, n, api.ErrArg)
		noStep(t, api.Pipe{}, n, api.ErrArg)
	}
	for _, n := range far {
		noStep(t, api.Pipe{Left: []string{"a"}}, n, api.ErrArg)
		noStep(t, api.Pipe{}, n, api.ErrArg)
	}
}

func TestStepBits(t *testing.T) {
	for _, n := range append([]int{2, 3, 4, 5}, far...) {
		for bit := range 2 {
			for _, fate := range fates {
				for _, left := range [][]string{nil, {"a"}, {"a", "b"}} {
					noStep(t, api.Pipe{Send: n, Want: bit, Left: left, Got: []string{"x"}}, fate, api.ErrArg)
					noStep(t, api.Pipe{Send: bit, Want: n, Left: left, Got: []string{"x"}}, fate, api.ErrArg)
					noStep(t, api.Pipe{Send: n, Want: n, Left: left, Got: []string{"x"}}, fate, api.ErrArg)
					noStep(t, api.Pipe{Send: n, Want: 1 - n, Left: left, Got: []string{"x"}}, fate, api.ErrArg)
				}
			}
		}
	}
}

func TestStepLarge(t *testing.T) {
	counts := []int{0, 1, 2, 199, 200, 201, 202, 256, 400, 1000}
	for _, left := range counts {
		for _, got := range counts {
			for bits := range 4 {
				p := api.Pipe{Send: bits % 2, Want: bits / 2, Left: named("l", left), Got: named("g", got)}
				for _, fate := range fates {
					if left > 200 || got > 200 {
						noStep(t, p, fate, api.ErrLarge)
						continue
					}
					step(t, p, fate, behind(p, fate))
				}
			}
		}
	}
}

// behind is what the chapter says of a Step, said another way.
func behind(p api.Pipe, fate int) api.Pipe {
	q := api.Pipe{Send: p.Send, Want: p.Want, Left: slices.Clone(p.Left), Got: slices.Clone(p.Got)}
	if len(p.Left) == 0 {
		return q
	}
	if p.Send == p.Want && (fate == 1 || fate == 3) {
		q.Got = slices.Concat(p.Got, p.Left[:1])
		q.Want = (p.Want + 1) % 2
	}
	if fate == 1 {
		q.Left = slices.Delete(q.Left, 0, 1)
		q.Send = (p.Send + 1) % 2
	}
	return q
}

// A pipe with 200 that were taken takes one more; with these 201 it is too large for the next try.
func TestStepOneAbove(t *testing.T) {
	for _, fate := range []int{api.FGood, api.FDeaf} {
		p := api.Pipe{Left: []string{"a", "b"}, Got: named("g", 200)}
		q, code := Step(p, fate)
		if code != api.OK || len(q.Got) != 201 || q.Got[200] != "a" || !slices.Equal(q.Got[:200], p.Got) {
			t.Fatalf("%d of them, %d", len(q.Got), code)
		}
		for _, next := range fates {
			noStep(t, q, next, api.ErrLarge)
		}
		q.Left = nil
		noStep(t, q, api.FLost, api.ErrLarge)
	}
}

func TestStepOrder(t *testing.T) {
	large := []func(p *api.Pipe){
		func(p *api.Pipe) { p.Left = make([]string, 201) },
		func(p *api.Pipe) { p.Got = make([]string, 201) },
	}
	for _, spoil := range large {
		p := api.Pipe{Left: []string{"a"}}
		spoil(&p)
		noStep(t, p, api.FGood, api.ErrLarge)
		noStep(t, p, 0, api.ErrArg)
		noStep(t, p, 6, api.ErrArg)
		q := p
		q.Send = 2
		noStep(t, q, api.FGood, api.ErrArg)
		q = p
		q.Want = -1
		noStep(t, q, api.FGood, api.ErrArg)
	}
}

// P9.3

// carried is how a pipe of texts stands once some were heard of, and so many were taken.
func carried(texts []string, heard, taken int) api.Pipe {
	return api.Pipe{Send: heard % 2, Want: taken % 2, Left: texts[heard:], Got: texts[:taken]}
}

// after counts what was heard of and what was taken, without any bit.
func after(texts []string, fates []int) api.Pipe {
	heard, taken := 0, 0
	for _, fate := range fates {
		if heard == len(texts) {
			break
		}
		switch fate {
		case api.FGood:
			heard++
			taken = heard
		case api.FDeaf:
			taken = heard + 1
		}
	}
	return carried(texts, heard, taken)
}

func TestRunExamples(t *testing.T) {
	run(t, []string{"a", "b"}, []int{api.FDeaf, api.FGood, api.FLost, api.FDeaf}, api.Pipe{Send: 1, Want: 0, Left: []string{"b"}, Got: []string{"a", "b"}})
	run(t, nil, nil, api.Pipe{})
	run(t, []string{}, []int{}, api.Pipe{})
	run(t, nil, []int{api.FGood, api.FDeaf}, api.Pipe{})
	run(t, []string{"a"}, nil, api.Pipe{Left: []string{"a"}})
	run(t, []string{"a"}, []int{api.FGood}, api.Pipe{Send: 1, Want: 1, Got: []string{"a"}})
	run(t, []string{"a"}, []int{api.FGood, api.FGood, api.FDeaf}, api.Pipe{Send: 1, Want: 1, Got: []string{"a"}})
	run(t, []string{"a", "a", "a"}, []int{api.FDeaf, api.FDeaf, api.FGood, api.FGood}, api.Pipe{Left: []string{"a"}, Got: []string{"a", "a"}})
}

// All rows of up to seven fates.
func TestRunAllShort(t *testing.T) {
	rows := [][]int{nil}
	for size := 0; size <= 7; size++ {
		for _, row := range rows {
			for count := range 4 {
				texts := named("t", count)
				run(t, texts, row, after(texts, row))
			}
		}
		var longer [][]int
		for _, row := range rows {
			for _, fate := range fates {
				longer = append(longer, append(slices.Clone(row), fate))
			}
		}
		rows = longer
	}
}

func TestRunIsSteps(t *testing.T) {
	d := dice{9}
	for range 300 {
		texts := named("t", d.below(201))
		row := make([]int, d.below(1001))
		for i := range row {
			row[i] = fates[d.below(5)]
		}
		p, code := New(texts)
		for _, fate := range row {
			if code == api.OK {
				p, code = Step(p, fate)
			}
		}
		if code != api.OK {
			t.Fatal(code)
		}
		run(t, texts, row, p)
		run(t, texts, row, after(texts, row))
	}
}

// Nothing comes twice, nothing is left out.
func TestRunTakesABeginning(t *testing.T) {
	d := dice{3}
	for range 2000 {
		texts := make([]string, d.below(20))
		for i := range texts {
			texts[i] = "ab"[:d.below(3)]
		}
		row := make([]int, d.below(60))
		for i := range row {
			row[i] = fates[d.below(5)]
		}
		p, code := Run(texts, row)
		if code != api.OK || len(p.Got) > len(texts) || !slices.Equal(p.Got, texts[:len(p.Got)]) {
			t.Fatalf("Run(%q, %v): %v %d", texts, row, p, code)
		}
		twice := len(p.Got) + len(p.Left) - len(texts)
		if twice != 0 && twice != 1 || !slices.Equal(p.Left, texts[len(texts)-len(p.Left):]) {
			t.Fatalf("Run(%q, %v): %v", texts, row, p)
		}
	}
}

// repeated is a row of the same fate.
func repeated(fate, count int) []int { return slices.Repeat([]int{fate}, count) }

func TestRunEdges(t *testing.T) {
	texts := named("t", 200)
	for _, count := range []int{199, 200, 201, 999, 1000} {
		run(t, texts, repeated(api.FGood, count), carried(texts, min(count, 200), min(count, 200)))
		run(t, texts, repeated(api.FDeaf, count), carried(texts, 0, 1))
		run(t, texts, repeated(api.FLost, count), carried(texts, 0, 0))
	}
	run(t, texts, slices.Repeat([]int{api.FDeaf, api.FLost, api.FDeaf, api.FBusy, api.FGood}, 200), carried(texts, 200, 200))
	run(t, texts, append(repeated(api.FGood, 199), api.FDeaf), carried(texts, 199, 200))
}

func TestRunErrors(t *testing.T) {
	for _, count := range []int{201, 202, 400, 1000} {
		noRun(t, make([]string, count), nil, api.ErrLarge)
	}
	for _, count := range []int{1001, 1002, 2000, 65537} {
		noRun(t, nil, repeated(api.FGood, count), api.ErrLarge)
		noRun(t, []string{"a"}, repeated(api.FLost, count), api.ErrLarge)
	}
	for _, size := range []int{1, 2, 5, 1000} {
		for at := range size {
			for _, n := range []int{0, far[at%len(far)]} {
				row := repeated(api.FGood, size)
				row[at] = n
				noRun(t, []string{"a", "b"}, row, api.ErrArg)
				noRun(t, nil, row, api.ErrArg)
			}
		}
	}
	for _, n := range far {
		noRun(t, named("t", 200), []int{n}, api.ErrArg)
	}
}

func TestRunOrder(t *testing.T) {
	noRun(t, make([]string, 201), []int{0}, api.ErrLarge)
	noRun(t, make([]string, 201), make([]int, 1001), api.ErrLarge)
	noRun(t, []string{"a"}, make([]int, 1001), api.ErrLarge)
	noRun(t, nil, append(repeated(api.FGood, 1000), 6), api.ErrLarge)
	noRun(t, []string{"a"}, make([]int, 1000), api.ErrArg)
}

// P2

// roomy is list with spare room, which is filled.
func roomy(list []string) []string {
	whole := append(slices.Clone(list), "room", "room", "room", "room")
	return whole[:len(list)]
}

// fill overwrites all that can be reached from list.
func fill(list []string) {
	list = list[:cap(list)]
	for i := range list {
		list[i] = "filled"
	}
}

func whole(list []string) []string { return slices.Clone(list[:cap(list)]) }

// alone fails if filling a list of p changes the other list, or one that was handed in.
func alone(t *testing.T, p api.Pipe, handed ...[]string) {
	t.Helper()
	for turn := range 2 {
		one, other := p.Left, p.Got
		if turn == 1 {
			one, other = other, one
		}
		ahead := [][]string{whole(other)}
		for _, list := range handed {
			ahead = append(ahead, whole(list))
		}
		fill(one)
		for i, list := range append([][]string{other}, handed...) {
			if !slices.Equal(ahead[i], whole(list)) {
				t.Errorf("list %d is changed with list %d of the answer", i, turn)
			}
		}
	}
}

func TestNewIsNewMemory(t *testing.T) {
	for _, count := range []int{0, 1, 2, 3, 200, 201} {
		texts := roomy(named("t", count))
		ahead := whole(texts)
		p, _ := New(texts)
		if !slices.Equal(ahead, whole(texts)) {
			t.Error("New changed what was handed in")
		}
		alone(t, p, texts)
	}
}

func TestStepIsNewMemory(t *testing.T) {
	for _, left := range []int{0, 1, 2, 5, 200, 201} {
		for _, got := range []int{0, 1, 2, 5, 200} {
			for _, fate := range append([]int{0}, fates...) {
				for bits := range 4 {
					p := api.Pipe{Send: bits % 2, Want: bits / 2, Left: roomy(named("l", left)), Got: roomy(named("g", got))}
					ahead := [][]string{whole(p.Left), whole(p.Got)}
					q, _ := Step(p, fate)
					if !slices.Equal(ahead[0], whole(p.Left)) || !slices.Equal(ahead[1], whole(p.Got)) {
						t.Errorf("Step(%v, %d) changed what was handed in", p, fate)
					}
					alone(t, q, p.Left, p.Got)
				}
			}
		}
	}
}

// Left and Got may be one list, or share their room.
func TestStepOfSharedLists(t *testing.T) {
	for _, fate := range fates {
		list := []string{"a", "b", "c", "d"}
		p := api.Pipe{Left: list, Got: list}
		q := api.Pipe{Left: list[1:], Got: list[:1]}
		step(t, p, fate, behind(p, fate))
		step(t, q, fate, behind(q, fate))
		if !slices.Equal(list, []string{"a", "b", "c", "d"}) {
			t.Errorf("fate %d: %q", fate, list)
		}
	}
}

func TestRunIsNewMemory(t *testing.T) {
	rows := [][]int{nil, {api.FGood}, {api.FDeaf}, {api.FDeaf, api.FGood, api.FGood}, {api.FLost, api.FGood, api.FDeaf, api.FDeaf}, {0}}
	for _, count := range []int{0, 1, 2, 3, 4, 200} {
		for _, row := range rows {
			texts := roomy(named("t", count))
			handed := append(slices.Clone(row), 77, 78)[:len(row)]
			ahead, numbers := whole(texts), slices.Clone(handed[:cap(handed)])
			p, _ := Run(texts, handed)
			if !slices.Equal(ahead, whole(texts)) || !slices.Equal(numbers, handed[:cap(handed)]) {
				t.Errorf("Run(%v) changed what was handed in", row)
			}
			alone(t, p, texts)
		}
	}
}

func TestSameAnswerAgain(t *testing.T) {
	texts, row := []string{"a", "b", "c"}, []int{api.FDeaf, api.FGood, api.FDeaf}
	for range 3 {
		want := carried(texts, 1, 2)
		run(t, texts, row, want)
		step(t, want, api.FGood, carried(texts, 2, 2))
		noStep(t, want, 0, api.ErrArg)
		noRun(t, texts, []int{0}, api.ErrArg)
	}
}
