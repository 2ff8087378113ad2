package arena

import (
	"math"
	"reflect"
	"slices"
	"testing"

	"plugtree/api"
)

// far are numbers that are out of all bounds, many of them such that their lower bits are not.
var far = []int{-1, -2, -8, -4096, -65536, 65537, 65538, 131072, 1 << 20, 1 << 31, 1 << 32, 1<<32 + 1, 1<<32 + 8, 1<<40 + 16, 1 << 62, 1<<62 + 1, math.MinInt, math.MinInt + 1, math.MinInt + 8, math.MinInt32, math.MaxInt, math.MaxInt - 1}

var aligns = []int{1, 2, 4, 8, 16, 32, 64, 128, 256, 512, 1024, 2048, 4096}

// dice are numbers that are the same in each run.
type dice struct{ n uint64 }

func (d *dice) below(most int) int {
	d.n = d.n*6364136223846793005 + 1442695040888963407
	return int(d.n>>33) % most
}

func same(a, b api.Arena) bool { return a.Size == b.Size && slices.Equal(a.Taken, b.Taken) }

func isZero(a api.Arena) bool { return reflect.DeepEqual(a, api.Arena{}) }

// row is an arena with spans that are told as pairs: where, and how many units.
func row(size int, pairs ...int) api.Arena {
	a := api.Arena{Size: size}
	for i := 0; i < len(pairs); i += 2 {
		a.Taken = append(a.Taken, api.Span{At: pairs[i], Size: pairs[i+1]})
	}
	return a
}

// ones is an arena with so many spans of one unit, one each step, from from on.
func ones(size, count, from, step int) api.Arena {
	a := api.Arena{Size: size}
	for i := range count {
		a.Taken = append(a.Taken, api.Span{At: from + i*step, Size: 1})
	}
	return a
}

func check(t *testing.T, a api.Arena, want api.Errno) {
	t.Helper()
	if code := Check(a); code != want {
		t.Errorf("Check(%v): %d, not %d", a, code, want)
	}
}

func take(t *testing.T, a api.Arena, size, align, at int) {
	t.Helper()
	b, got, code := Take(a, size, align)
	if code != api.OK || got != at || !same(b, laid(a, api.Span{At: at, Size: size})) {
		t.Fatalf("Take(%v, %d, %d): %v %d %d, not at %d", a, size, align, b, got, code, at)
	}
}

func noTake(t *testing.T, a api.Arena, size, align int, want api.Errno) {
	t.Helper()
	if b, at, code := Take(a, size, align); code != want || at != 0 || !isZero(b) {
		t.Fatalf("Take(%v, %d, %d): %v %d %d, not %d", a, size, align, b, at, code, want)
	}
}

func give(t *testing.T, a api.Arena, at int, want api.Arena) {
	t.Helper()
	if b, code := Give(a, at); code != api.OK || !same(b, want) {
		t.Fatalf("Give(%v, %d): %v %d, not %v", a, at, b, code, want)
	}
}

func noGive(t *testing.T, a api.Arena, at int, want api.Errno) {
	t.Helper()
	if b, code := Give(a, at); code != want || !isZero(b) {
		t.Fatalf("Give(%v, %d): %v %d, not %d", a, at, b, code, want)
	}
}

func free(t *testing.T, a api.Arena, want int) {
	t.Helper()
	if n, code := Free(a); code != api.OK || n != want {
		t.Fatalf("Free(%v): %d %d, not %d", a, n, code, want)
	}
}

// laid is an arena with a span more, in the order of the places.
func laid(a api.Arena, span api.Span) api.Arena {
	spans := append(slices.Clone(a.Taken), span)
	slices.SortFunc(spans, func(x, y api.Span) int { return x.At - y.At })
	return api.Arena{Size: a.Size, Taken: spans}
}

// units tells of each unit whether it is taken.
func units(a api.Arena) []bool {
	taken := make([]bool, a.Size)
	for _, span := range a.Taken {
		for i := range span.Size {
			taken[span.At+i] = true
		}
	}
	return taken
}

// least is what P11.2 says of a place, tried unit by unit; -1 if there is none.
func least(taken []bool, size, align int) int {
	run := 0
	for last := range taken {
		if last%4096 == 0 {
			run = 0
		}
		run++
		if taken[last] {
			run = 0
		}
		at := last + 1 - size
		if run >= size && at%align == 0 {
			return at
		}
	}
	return -1
}

// tried holds a Take against what is told unit by unit.
func tried(t *testing.T, a api.Arena, size, align int) {
	t.Helper()
	at := least(units(a), size, align)
	if at < 0 || len(a.Taken) == 64 {
		noTake(t, a, size, align, api.ErrFull)
		return
	}
	take(t, a, size, align, at)
}

// P11.1

func TestNew(t *testing.T) {
	for _, size := range []int{1, 2, 3, 100, 4095, 4096, 4097, 8192, 65534, 65535, 65536} {
		a, code := New(size)
		if code != api.OK || !same(a, api.Arena{Size: size}) {
			t.Errorf("New(%d): %v %d", size, a, code)
		}
		check(t, a, api.OK)
		free(t, a, size)
	}
	for _, size := range append([]int{0}, far...) {
		if a, code := New(size); code != api.ErrArg || !isZero(a) {
			t.Errorf("New(%d): %v %d", size, a, code)
		}
	}
}

func TestCheckSize(t *testing.T) {
	for _, size := range append([]int{0}, far...) {
		check(t, api.Arena{Size: size}, api.ErrArg)
		check(t, row(size, 0, 1), api.ErrArg)
	}
	for _, size := range []int{1, 2, 4096, 65535, 65536} {
		check(t, api.Arena{Size: size}, api.OK)
		check(t, api.Arena{Size: size, Taken: []api.Span{}}, api.OK)
		check(t, row(size, 0, size), api.OK)
		check(t, row(size, size-1, 1), api.OK)
	}
}

func TestCheckLarge(t *testing.T) {
	for _, count := range []int{1, 2, 63, 64} {
		check(t, ones(65536, count, 0, 1), api.OK)
		check(t, ones(64, count, 0, 1), api.OK)
		check(t, ones(65536, count, 500, 1000), api.OK)
	}
	for _, count := range []int{65, 66, 128, 256, 1000, 65537} {
		check(t, ones(65536, count, 0, 1), api.ErrLarge)
	}
}

func TestCheckForm(t *testing.T) {
	good := []api.Arena{
		row(4, 0, 4), row(4, 3, 1), row(4, 0, 1, 3, 1), row(4, 0, 2, 2, 2), row(4, 0, 1, 1, 1, 2, 1, 3, 1), row(4, 1, 2),
		row(65536, 0, 65536), row(65536, 65535, 1), row(65536, 100, 8000), row(8192, 4000, 200, 4200, 3992),
	}
	for _, a := range good {
		check(t, a, api.OK)
	}
	bad := []api.Arena{
		row(4, 0, 0), row(4, 0, -1), row(4, 3, 0), row(4, 4, 0), row(4, 4, 1), row(4, 0, 5), row(4, 3, 2), row(4, -1, 1), row(4, -1, 2), row(4, 5, -1), row(4, 5, 1),
		row(4, 0, 3, 2, 1), row(4, 2, 1, 0, 1), row(4, 0, 1, 0, 1), row(4, 1, 1, 0, 1), row(4, 0, 2, 1, 2), row(4, 1, 1, 1, 0), row(4, 0, 4, 4, 1), row(4, 0, 4, 0, 4),
		row(4, 0, 1, 1, 0, 1, 1), row(4, 0, 1, 1, 0), row(4, 0, 0, 0, 1), row(4, 0, 1, 1, 1, 2, 3), row(4, 0, 1, 2, 2, 1, 1), row(4, 0, 3, 1, 1, 3, 1),
		row(65536, 0, 65537), row(65536, 65536, 1), row(65536, 65535, 2), row(65536, 65536, 0),
	}
	for _, a := range bad {
		check(t, a, api.ErrForm)
	}
}

// Numbers whose sum wraps round are no units of an arena.
func TestCheckFar(t *testing.T) {
	for _, size := range []int{1, 9, 65536} {
		for _, n := range far {
			for _, m := range append([]int{0, 1, 8, 9}, far...) {
				check(t, row(size, n, m), api.ErrForm)
				check(t, row(size, m, n), api.ErrForm)
				check(t, row(size, 0, 1, n, m), api.ErrForm)
				check(t, row(size, n, m, 0, 1), api.ErrForm)
				check(t, row(size, n, 1-n), api.ErrForm)
			}
		}
	}
}

// All rows of up to two spans, with numbers around a small arena.
func TestCheckAllSmall(t *testing.T) {
	const size = 4
	in := func(at, n int) bool { return n >= 1 && at >= 0 && at+n <= size }
	want := func(good bool) api.Errno {
		if good {
			return api.OK
		}
		return api.ErrForm
	}
	for at := -2; at <= size+2; at++ {
		for n := -2; n <= size+2; n++ {
			check(t, row(size, at, n), want(in(at, n)))
			for next := -2; next <= size+2; next++ {
				for m := -2; m <= size+2; m++ {
					check(t, row(size, at, n, next, m), want(in(at, n) && in(next, m) && next >= at+n))
				}
			}
		}
	}
}

func TestCheckEachSpan(t *testing.T) {
	for i := range 64 {
		for _, spoilt := range []api.Span{{At: 1000 * i, Size: 0}, {At: 1000 * i, Size: 1001}, {At: 1000*i - 1000, Size: 1}, {At: 65536, Size: 1}} {
			a := ones(63500, 64, 0, 1000)
			a.Taken[i] = spoilt
			check(t, a, api.ErrForm)
		}
	}
}

func TestCheckOrder(t *testing.T) {
	for _, size := range append([]int{0}, far...) {
		check(t, ones(size, 65, 0, 1), api.ErrArg)
		check(t, ones(size, 65, 0, 0), api.ErrArg)
		check(t, row(size, 5, -1), api.ErrArg)
	}
	check(t, ones(65536, 65, 0, 0), api.ErrLarge)
	check(t, ones(10, 65, 0, 1), api.ErrLarge)
	check(t, api.Arena{Size: 1, Taken: make([]api.Span, 65)}, api.ErrLarge)
	check(t, api.Arena{Size: 1, Taken: make([]api.Span, 64)}, api.ErrForm)
}

// P11.2

func TestTakeExamples(t *testing.T) {
	take(t, row(64, 0, 5, 16, 1), 8, 8, 8)
	take(t, row(64, 0, 5, 16, 1), 3, 1, 5)
	take(t, row(64, 0, 5, 16, 1), 11, 1, 5)
	take(t, row(64, 0, 5, 16, 1), 12, 1, 17)
	take(t, row(64, 0, 5, 16, 1), 9, 8, 24)
	take(t, row(64, 0, 5, 16, 1), 47, 1, 17)
	noTake(t, row(64, 0, 5, 16, 1), 48, 1, api.ErrFull)
	noTake(t, row(64, 0, 5, 16, 1), 1, 64, api.ErrFull)
	take(t, row(1), 1, 4096, 0)
	noTake(t, row(1), 2, 1, api.ErrFull)
	noTake(t, row(1, 0, 1), 1, 1, api.ErrFull)
	take(t, row(10, 4, 6), 4, 4, 0)
	take(t, row(10, 0, 4), 6, 2, 4)
	take(t, row(10, 0, 4, 5, 5), 1, 4, 4)
	take(t, row(10, 0, 4, 5, 5), 1, 1, 4)
	noTake(t, row(10, 0, 4, 5, 5), 1, 8, api.ErrFull)
}

// No span that is taken lies in two pages, and a whole page is one.
func TestTakePages(t *testing.T) {
	for _, align := range aligns {
		take(t, row(8192), 4096, align, 0)
		take(t, row(8192, 0, 1), 4096, align, 4096)
		take(t, row(8192, 0, 4095), 2, align, 4096)
		take(t, row(8192, 0, 4096), 4096, align, 4096)
		take(t, row(65536, 0, 61439), 4096, align, 61440)
		noTake(t, row(65536, 0, 61441), 4096, align, api.ErrFull)
		noTake(t, row(8191, 0, 1), 4096, align, api.ErrFull)
		noTake(t, row(4097, 0, 4095), 2, align, api.ErrFull)
		noTake(t, row(4095), 4096, align, api.ErrFull)
		noTake(t, row(8192, 4095, 2), 4096, align, api.ErrFull)
	}
	take(t, row(8192, 0, 4095), 1, 1, 4095)
	take(t, row(8192, 0, 4094), 2, 2, 4094)
	take(t, row(8192, 0, 4094), 3, 2, 4096)
	take(t, row(65536, 0, 65535), 1, 1, 65535)
	noTake(t, row(65536, 0, 65535), 1, 2, api.ErrFull)
	noTake(t, row(65536, 0, 65536), 1, 1, api.ErrFull)
	// What was handed in may have spans of many pages.
	take(t, row(65536, 100, 8000), 100, 1, 0)
	take(t, row(65536, 100, 8000), 101, 1, 8192)
	take(t, row(65536, 100, 8000), 92, 4, 0)
	take(t, row(65536, 99, 8000), 100, 1, 8192)
	take(t, row(65536, 0, 8099), 93, 1, 8099)
	take(t, row(65536, 0, 8099), 94, 1, 8192)
	noTake(t, row(8200, 0, 4000, 4100, 4050), 97, 1, api.ErrFull)
	take(t, row(8200, 0, 4000, 4100, 4050), 96, 1, 4000)
}

func TestTakeArg(t *testing.T) {
	for n := -5; n <= 4100; n++ {
		if slices.Contains(aligns, n) {
			take(t, row(65536), 1, n, 0)
			take(t, row(65536, 0, 1), 1, n, n)
		} else {
			noTake(t, row(65536), 1, n, api.ErrArg)
		}
		if 1 <= n && n <= 4096 {
			take(t, row(65536), n, 1, 0)
		} else {
			noTake(t, row(65536), n, 1, api.ErrArg)
		}
	}
	for _, n := range append([]int{0, 4097, 8192, 16384, 65536}, far...) {
		noTake(t, row(65536), 1, n, api.ErrArg)
		noTake(t, row(65536), n, 1, api.ErrArg)
		noTake(t, row(65536), n, n, api.ErrArg)
	}
}

func TestTakeOrder(t *testing.T) {
	bad := []struct {
		arena api.Arena
		code  api.Errno
	}{{row(0), api.ErrArg}, {row(65537), api.ErrArg}, {ones(100, 65, 0, 1), api.ErrLarge}, {row(4, 2, 3), api.ErrForm}, {row(4, 1, 1, 1, 1), api.ErrForm}, {ones(4, 64, 0, 0), api.ErrForm}}
	for _, b := range bad {
		for _, size := range []int{0, 1, 4096, 4097, math.MinInt} {
			for _, align := range []int{0, 1, 3, math.MaxInt} {
				noTake(t, b.arena, size, align, b.code)
			}
		}
	}
	for _, a := range []api.Arena{ones(65536, 64, 0, 1), row(4, 0, 4)} {
		noTake(t, a, 0, 1, api.ErrArg)
		noTake(t, a, 4097, 1, api.ErrArg)
		noTake(t, a, 1, 3, api.ErrArg)
		noTake(t, a, 1, 1, api.ErrFull)
	}
}

func TestTakeMostSpans(t *testing.T) {
	for _, from := range []int{0, 1, 2000} {
		for _, step := range []int{1, 2, 900} {
			a := ones(65536, 63, from, step)
			tried(t, a, 1, 1)
			tried(t, a, 4096, 4096)
			noTake(t, ones(65536, 64, from, step), 1, 1, api.ErrFull)
		}
	}
	a := row(65536)
	for i := range 64 {
		b, at, code := Take(a, 1000, 1)
		if code != api.OK || at != i/4*4096+i%4*1000 || len(b.Taken) != i+1 {
			t.Fatal(i, at, code)
		}
		a = b
	}
	noTake(t, a, 1, 1, api.ErrFull)
	free(t, a, 1536)
	check(t, a, api.OK)
}

// Each set of taken units of arenas of up to eleven units, unit by unit and run by run.
func TestTakeAllSmall(t *testing.T) {
	for size := 1; size <= 11; size++ {
		for set := range 1 << size {
			for _, a := range []api.Arena{byUnits(size, set), byRuns(size, set)} {
				for want := 1; want <= size+1; want++ {
					for _, align := range []int{1, 2, 4, 8, 16, 4096} {
						tried(t, a, want, align)
					}
				}
			}
		}
	}
}

// byUnits has a span for each bit of set.
func byUnits(size, set int) api.Arena {
	a := api.Arena{Size: size}
	for i := range size {
		if set>>i&1 == 1 {
			a.Taken = append(a.Taken, api.Span{At: i, Size: 1})
		}
	}
	return a
}

// byRuns has a span for each run of bits of set.
func byRuns(size, set int) api.Arena {
	a := api.Arena{Size: size}
	for i := range size {
		last := len(a.Taken) - 1
		switch {
		case set>>i&1 == 0:
		case last >= 0 && a.Taken[last].At+a.Taken[last].Size == i:
			a.Taken[last].Size++
		default:
			a.Taken = append(a.Taken, api.Span{At: i, Size: 1})
		}
	}
	return a
}

// thrown is an arena with spans of all kinds, many of which end near those behind them, or near the end of a page.
func thrown(d *dice) api.Arena {
	a := api.Arena{Size: 1 + d.below(65536)}
	if d.below(2) == 0 {
		a.Size = min(65536, 4096*(1+d.below(16))+d.below(3))
	}
	gap := 1 + d.below(6000)
	size := 1 + d.below(6000)
	at := 0
	for range d.below(65) {
		switch d.below(4) {
		case 0:
			at += d.below(gap)
		case 1:
			at += d.below(20)
		case 2:
			at = max(at, (at/4096+1)*4096-d.below(20))
		}
		span := api.Span{At: at, Size: 1 + d.below(size)}
		if span.At+span.Size > a.Size {
			break
		}
		a.Taken = append(a.Taken, span)
		at += span.Size
	}
	return a
}

func TestTakeThrown(t *testing.T) {
	d := dice{11}
	for range 1500 {
		a := thrown(&d)
		check(t, a, api.OK)
		for range 6 {
			size := 1 + d.below(1+d.below(4096))
			tried(t, a, size, aligns[d.below(13)])
		}
	}
}

// Places that just fit, and that are one unit short, in each gap.
func TestTakeJustFits(t *testing.T) {
	d := dice{12}
	for range 300 {
		a := thrown(&d)
		from := 0
		for _, span := range append(slices.Clone(a.Taken), api.Span{At: a.Size}) {
			for _, size := range []int{span.At - from - 1, span.At - from, span.At - from + 1} {
				if 1 <= size && size <= 4096 {
					tried(t, a, size, 1)
					tried(t, a, size, aligns[d.below(13)])
				}
			}
			from = span.At + span.Size
		}
	}
}

// P11.3

func TestGive(t *testing.T) {
	a := row(64, 0, 5, 5, 3, 16, 1, 60, 4)
	give(t, a, 0, row(64, 5, 3, 16, 1, 60, 4))
	give(t, a, 5, row(64, 0, 5, 16, 1, 60, 4))
	give(t, a, 16, row(64, 0, 5, 5, 3, 60, 4))
	give(t, a, 60, row(64, 0, 5, 5, 3, 16, 1))
	give(t, row(1, 0, 1), 0, row(1))
	for _, at := range append([]int{1, 2, 3, 4, 6, 7, 8, 15, 17, 59, 61, 62, 63, 64, 65}, far...) {
		noGive(t, a, at, api.ErrNone)
		noGive(t, row(64), at, api.ErrNone)
	}
	noGive(t, row(64), 0, api.ErrNone)
}

func TestGiveEach(t *testing.T) {
	for _, count := range []int{1, 2, 3, 63, 64} {
		a := ones(65536, count, 7, 1000)
		for i := range count {
			want := api.Arena{Size: a.Size, Taken: slices.Delete(slices.Clone(a.Taken), i, i+1)}
			give(t, a, 7+1000*i, want)
			noGive(t, want, 7+1000*i, api.ErrNone)
			noGive(t, a, 8+1000*i, api.ErrNone)
			noGive(t, a, 6+1000*i, api.ErrNone)
		}
	}
}

func TestFree(t *testing.T) {
	free(t, row(64), 64)
	free(t, row(64, 0, 64), 0)
	free(t, row(64, 0, 5, 5, 3, 16, 1, 60, 4), 51)
	free(t, row(65536), 65536)
	free(t, row(65536, 0, 65536), 0)
	free(t, row(65536, 1, 65535), 1)
	free(t, ones(64, 64, 0, 1), 0)
	free(t, ones(65536, 64, 3, 1000), 65472)
	d := dice{13}
	for range 300 {
		a := thrown(&d)
		count := 0
		for _, taken := range units(a) {
			if !taken {
				count++
			}
		}
		free(t, a, count)
	}
}

func TestGiveAndFreeCheck(t *testing.T) {
	bad := []struct {
		arena api.Arena
		code  api.Errno
	}{{row(0), api.ErrArg}, {row(0, 0, 1), api.ErrArg}, {row(65537, 0, 1), api.ErrArg}, {row(math.MinInt), api.ErrArg}, {ones(100, 65, 0, 1), api.ErrLarge}, {row(4, 0, 1, 0, 1), api.ErrForm}, {row(4, 0, 5), api.ErrForm}, {row(4, 0, 0), api.ErrForm}, {row(4, 0, 1, math.MaxInt, math.MaxInt), api.ErrForm}, {row(4, 0, math.MinInt), api.ErrForm}}
	for _, b := range bad {
		for _, at := range append([]int{0, 1, 4, 5}, far...) {
			noGive(t, b.arena, at, b.code)
		}
		if n, code := Free(b.arena); code != b.code || n != 0 {
			t.Errorf("Free(%v): %d %d, not %d", b.arena, n, code, b.code)
		}
	}
}

// What is taken and given lies as it was told, however it goes on: no unit is handed out twice, and none is lost.
func TestGoesOn(t *testing.T) {
	for seed := range 40 {
		d := dice{uint64(seed)}
		a, code := New(1 + d.below(65536))
		if code != api.OK {
			t.Fatal(code)
		}
		count, most := a.Size, 1+d.below(4096)
		for range 300 {
			if d.below(3) == 0 && len(a.Taken) > 0 {
				span := a.Taken[d.below(len(a.Taken))]
				if a, code = Give(a, span.At); code != api.OK {
					t.Fatal(code)
				}
				count += span.Size
			} else {
				size, align := 1+d.below(most), aligns[d.below(13)]
				tried(t, a, size, align)
				if b, _, code := Take(a, size, align); code == api.OK {
					a = b
					count -= size
				}
			}
			check(t, a, api.OK)
			free(t, a, count)
		}
	}
}

// What is given can be taken again, and the arena is then as it was.
func TestGiveUndoesTake(t *testing.T) {
	d := dice{14}
	for range 1000 {
		a := thrown(&d)
		if b, at, code := Take(a, 1+d.below(500), aligns[d.below(13)]); code == api.OK {
			give(t, b, at, a)
		}
	}
}

// P2

// roomy is an arena whose list has spare room, which is filled.
func roomy(a api.Arena) api.Arena {
	list := append(slices.Clone(a.Taken), make([]api.Span, 4)...)
	for i := range 4 {
		list[len(a.Taken)+i] = api.Span{At: 70 + i, Size: 80 + i}
	}
	a.Taken = list[:len(a.Taken)]
	return a
}

func whole(a api.Arena) []api.Span { return slices.Clone(a.Taken[:cap(a.Taken)]) }

// fill overwrites all that can be reached from an arena's list.
func fill(a api.Arena) {
	list := a.Taken[:cap(a.Taken)]
	for i := range list {
		list[i] = api.Span{At: -7, Size: -7}
	}
}

func TestAnswersAreNewMemory(t *testing.T) {
	calls := map[string]func(a api.Arena) api.Arena{
		"Take at the beginning": func(a api.Arena) api.Arena { b, _, _ := Take(a, 1, 1); return b },
		"Take in between":       func(a api.Arena) api.Arena { b, _, _ := Take(a, 3, 1); return b },
		"Take at the end":       func(a api.Arena) api.Arena { b, _, _ := Take(a, 2000, 1); return b },
		"Take of nothing":       func(a api.Arena) api.Arena { b, _, _ := Take(a, 0, 1); return b },
		"Give the first":        func(a api.Arena) api.Arena { b, _ := Give(a, 1); return b },
		"Give the second":       func(a api.Arena) api.Arena { b, _ := Give(a, 3); return b },
		"Give the last":         func(a api.Arena) api.Arena { b, _ := Give(a, 1000); return b },
		"Give none":             func(a api.Arena) api.Arena { b, _ := Give(a, 2); return b },
		"Check":                 func(a api.Arena) api.Arena { Check(a); return api.Arena{} },
		"Free":                  func(a api.Arena) api.Arena { Free(a); return api.Arena{} },
	}
	for name, call := range calls {
		for _, plain := range []api.Arena{row(65536), row(65536, 1, 1), row(65536, 1, 1, 3, 1, 1000, 5), row(65536, 1000, 5)} {
			a := roomy(plain)
			ahead := whole(a)
			b := call(a)
			if !slices.Equal(ahead, whole(a)) {
				t.Errorf("%s changed what was handed in: %v", name, plain)
			}
			fill(b)
			if !slices.Equal(ahead, whole(a)) {
				t.Errorf("%s answered what was handed in: %v", name, plain)
			}
		}
	}
	a, _ := New(8)
	b, _ := New(8)
	fill(a)
	if !same(b, api.Arena{Size: 8}) {
		t.Error(b)
	}
}

func TestSameAnswerAgain(t *testing.T) {
	a := row(64, 0, 5, 16, 1)
	for range 3 {
		take(t, a, 8, 8, 8)
		noTake(t, a, 64, 1, api.ErrFull)
		give(t, a, 16, row(64, 0, 5))
		noGive(t, a, 8, api.ErrNone)
		free(t, a, 58)
	}
}
