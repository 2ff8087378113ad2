package strike

import (
	"math"
	"slices"
	"strings"
	"testing"

	"plugtree/api"
)

// far are numbers that are out of all bounds, many of them such that their lower bits are not.
var far = []int{-1, -2, -5, -64, -255, -256, 65, 66, 127, 128, 255, 256, 257, 65537, 1 << 32, 1<<32 + 1, 1<<40 + 3, 1<<62 + 1, math.MinInt, math.MinInt + 1, math.MinInt + 5, math.MinInt32, math.MaxInt}

var fates = []int{api.FGood, api.FLost, api.FDeaf, api.FBusy, api.FStall}

// dice are numbers that are the same in each run.
type dice struct{ n uint64 }

func (d *dice) below(most int) int {
	d.n = d.n*6364136223846793005 + 1442695040888963407
	return int(d.n>>33) % most
}

// worded is a text of which pieces that are not the same look different, with bytes of all kinds.
func worded(size int) string {
	text := make([]byte, size)
	d := dice{uint64(size)}
	for i := range text {
		text[i] = byte(d.below(256))
	}
	return string(text)
}

// cut is what P10.1 says of a text, by its places.
func cut(text string, size int) []string {
	pieces := make([]string, len(text)/size+1)
	for i := range pieces {
		pieces[i] = text[i*size : min(i*size+size, len(text))]
	}
	return pieces
}

// repeated is a row of the same fate.
func repeated(fate, count int) []int { return slices.Repeat([]int{fate}, count) }

func noSplit(t *testing.T, text string, size int, want api.Errno) {
	t.Helper()
	if pieces, code := Split(text, size); code != want || pieces != nil {
		t.Errorf("Split of %d bytes, %d: %q %d, not %d", len(text), size, pieces, code, want)
	}
}

func join(t *testing.T, pieces []string, size int, want string) {
	t.Helper()
	if text, code := Join(pieces, size); code != api.OK || text != want {
		t.Fatalf("Join(%q, %d): %q %d, not %q", pieces, size, text, code, want)
	}
}

func noJoin(t *testing.T, pieces []string, size int, want api.Errno) {
	t.Helper()
	if text, code := Join(pieces, size); code != want || text != "" {
		t.Errorf("Join of %d pieces, %d: %q %d, not %d", len(pieces), size, text, code, want)
	}
}

func carry(t *testing.T, text string, size int, row []int, want api.Carried) {
	t.Helper()
	if got, code := Carry(text, size, row); code != api.OK || got != want {
		t.Fatalf("Carry(%q, %d, %v): %#v %d, not %#v", text, size, row, got, code, want)
	}
}

func noCarry(t *testing.T, text string, size int, row []int, want api.Errno) {
	t.Helper()
	if got, code := Carry(text, size, row); code != want || got != (api.Carried{}) {
		t.Fatalf("Carry of %d bytes, %d, %d fates: %#v %d, not %d", len(text), size, len(row), got, code, want)
	}
}

// P10.1

func TestSplitExamples(t *testing.T) {
	cases := []struct {
		text string
		size int
		want []string
	}{
		{"abcd", 2, []string{"ab", "cd", ""}},
		{"abc", 2, []string{"ab", "c"}},
		{"ab", 2, []string{"ab", ""}},
		{"a", 2, []string{"a"}},
		{"", 2, []string{""}},
		{"", 1, []string{""}},
		{"", 64, []string{""}},
		{"abc", 1, []string{"a", "b", "c", ""}},
		{"abc", 64, []string{"abc"}},
		{"\x00\xff\x80", 2, []string{"\x00\xff", "\x80"}},
		{"\u00e9\u00e9", 3, []string{"\xc3\xa9\xc3", "\xa9"}},
	}
	for _, c := range cases {
		if pieces, code := Split(c.text, c.size); code != api.OK || !slices.Equal(pieces, c.want) {
			t.Errorf("Split(%q, %d): %q %d", c.text, c.size, pieces, code)
		}
	}
}

func TestSplit(t *testing.T) {
	for size := 1; size <= 64; size++ {
		for _, length := range []int{0, 1, size - 1, size, size + 1, 2*size - 1, 2 * size, 2*size + 1, 10 * size, 199 * size, 200 * size, 4032, 4094, 4095, 4096} {
			text := worded(min(length, 4096))
			pieces, code := Split(text, size)
			if code != api.OK || !slices.Equal(pieces, cut(text, size)) {
				t.Fatalf("Split of %d bytes, %d: %q %d", len(text), size, pieces, code)
			}
		}
	}
}

func TestSplitErrors(t *testing.T) {
	for _, size := range append([]int{0}, far...) {
		for _, text := range []string{"", "a", worded(4096), worded(4097)} {
			noSplit(t, text, size, api.ErrArg)
		}
	}
	for size := 1; size <= 64; size++ {
		for _, length := range []int{4097, 4098, 5000, 8192, 65536} {
			noSplit(t, strings.Repeat("x", length), size, api.ErrLarge)
		}
	}
}

// P10.2

func TestJoinExamples(t *testing.T) {
	join(t, []string{"ab", "c"}, 2, "abc")
	join(t, []string{"ab", "cd", ""}, 2, "abcd")
	join(t, []string{""}, 1, "")
	join(t, []string{""}, 64, "")
	join(t, []string{"a"}, 2, "a")
	join(t, []string{"a", "b", ""}, 1, "ab")
	join(t, []string{"\x00\xff", "\x80"}, 2, "\x00\xff\x80")
	join(t, []string{strings.Repeat("x", 63)}, 64, strings.Repeat("x", 63))
}

func TestJoinForm(t *testing.T) {
	rows := [][]string{
		nil, {}, {"ab"}, {"abc"}, {"a", ""}, {"", ""}, {"", "a"}, {"", "ab"}, {"ab", "cd"}, {"ab", "cde"},
		{"ab", "", ""}, {"ab", "c", ""}, {"abc", ""}, {"abc", "d"}, {"ab", "abc", ""}, {"ab", "c", "de", ""},
	}
	for _, pieces := range rows {
		noJoin(t, pieces, 2, api.ErrForm)
	}
	for _, size := range []int{1, 2, 63, 64} {
		noJoin(t, nil, size, api.ErrForm)
		noJoin(t, []string{strings.Repeat("x", size)}, size, api.ErrForm)
		noJoin(t, []string{strings.Repeat("x", size+1)}, size, api.ErrForm)
		noJoin(t, []string{strings.Repeat("x", size-1), ""}, size, api.ErrForm)
		noJoin(t, []string{strings.Repeat("x", size+1), ""}, size, api.ErrForm)
		noJoin(t, make([]string, 5000), size, api.ErrForm)
	}
}

// One piece that is not as it should be, wherever it stands.
func TestJoinSpoilt(t *testing.T) {
	for _, size := range []int{1, 2, 7, 64} {
		good := cut(worded(5*size), size)
		for at := range good {
			for length := range size + 3 {
				pieces := slices.Clone(good)
				pieces[at] = strings.Repeat("x", length)
				if at < len(good)-1 && length == size || at == len(good)-1 && length < size {
					join(t, pieces, size, strings.Join(pieces, ""))
					continue
				}
				noJoin(t, pieces, size, api.ErrForm)
			}
		}
	}
}

func TestJoinLarge(t *testing.T) {
	for _, size := range []int{1, 2, 4, 8, 16, 32, 64} {
		pieces := cut(strings.Repeat("x", 4096), size)
		join(t, pieces, size, strings.Repeat("x", 4096))
		if size > 1 {
			pieces[len(pieces)-1] = "y"
			noJoin(t, pieces, size, api.ErrLarge)
		}
	}
	for _, size := range []int{3, 5, 63} {
		for _, length := range []int{4095, 4096} {
			text := worded(length)
			join(t, cut(text, size), size, text)
		}
		noJoin(t, cut(worded(4097), size), size, api.ErrLarge)
	}
}

// Too many bytes are told ahead of their form, and a size that is none ahead of both.
func TestJoinOrder(t *testing.T) {
	large := [][]string{
		{strings.Repeat("x", 4097)},
		{"", strings.Repeat("x", 4097)},
		{strings.Repeat("x", 4096), "x"},
		{"x", strings.Repeat("x", 4096)},
		{"a", strings.Repeat("x", 4096), ""},
		slices.Repeat([]string{"xx"}, 2049),
		slices.Repeat([]string{strings.Repeat("x", 1<<20)}, 5000),
	}
	for _, pieces := range large {
		for _, size := range []int{1, 2, 64} {
			noJoin(t, pieces, size, api.ErrLarge)
		}
		noJoin(t, pieces, 0, api.ErrArg)
	}
	form := [][]string{
		{strings.Repeat("x", 4096)},
		{"", strings.Repeat("x", 4096)},
		slices.Repeat([]string{"xx"}, 2048),
	}
	for _, pieces := range form {
		for _, size := range []int{1, 2, 64} {
			noJoin(t, pieces, size, api.ErrForm)
		}
	}
	for _, size := range append([]int{0}, far...) {
		for _, pieces := range [][]string{nil, {}, {""}, {"a"}, {"a", ""}, {"ab", "c", "d"}} {
			noJoin(t, pieces, size, api.ErrArg)
		}
	}
}

func TestJoinIsSplitBack(t *testing.T) {
	for size := 1; size <= 64; size++ {
		for length := 0; length <= 4096; length += 1 + length/7 {
			text := worded(length)
			pieces, _ := Split(text, size)
			join(t, pieces, size, text)
		}
	}
}

// P10.3

// threeStrikes looks back from the end of row.
func threeStrikes(row []int) bool {
	strikes := 0
	for _, fate := range slices.Backward(row) {
		if fate == api.FGood {
			break
		}
		if fate == api.FLost || fate == api.FDeaf {
			strikes++
		}
	}
	return strikes >= 3
}

// ended is how a transfer of so many pieces ended with the last fate of row; ErrTime, if it didn't.
func ended(count int, row []int) api.Errno {
	good := 0
	for _, fate := range row {
		if fate == api.FGood {
			good++
		}
	}
	switch {
	case len(row) == 0:
		return api.ErrTime
	case good == count:
		return api.OK
	case row[len(row)-1] == api.FStall:
		return api.ErrStall
	case threeStrikes(row):
		return api.ErrBus
	}
	return api.ErrTime
}

// after is what P10.3 says, told without a pipe: by counts of what was heard of, and of what was taken.
func after(text string, size int, row []int) api.Carried {
	pieces := cut(text, size)
	used := 0
	for used < len(row) && ended(len(pieces), row[:used]) == api.ErrTime {
		used++
	}
	heard, taken := 0, 0
	for _, fate := range row[:used] {
		switch fate {
		case api.FGood:
			heard++
			taken = heard
		case api.FDeaf:
			taken = heard + 1
		}
	}
	return api.Carried{
		Code: ended(len(pieces), row[:used]),
		Got:  strings.Join(pieces[:taken], ""),
		Done: len(strings.Join(pieces[:heard], "")),
		Used: used,
	}
}

func TestCarryEnds(t *testing.T) {
	const good, lost, deaf, busy, stall = api.FGood, api.FLost, api.FDeaf, api.FBusy, api.FStall
	cases := []struct {
		row  []int
		want api.Carried
	}{
		{nil, api.Carried{Code: api.ErrTime}},
		{[]int{}, api.Carried{Code: api.ErrTime}},
		{[]int{good}, api.Carried{Code: api.ErrTime, Got: "ab", Done: 2, Used: 1}},
		{[]int{good, good}, api.Carried{Code: api.OK, Got: "abc", Done: 3, Used: 2}},
		{[]int{good, good, stall}, api.Carried{Code: api.OK, Got: "abc", Done: 3, Used: 2}},
		{[]int{good, good, lost, lost, lost}, api.Carried{Code: api.OK, Got: "abc", Done: 3, Used: 2}},
		{[]int{deaf}, api.Carried{Code: api.ErrTime, Got: "ab", Used: 1}},
		{[]int{good, deaf}, api.Carried{Code: api.ErrTime, Got: "abc", Done: 2, Used: 2}},
		{[]int{deaf, deaf, deaf}, api.Carried{Code: api.ErrBus, Got: "ab", Used: 3}},
		{[]int{lost, lost, lost, good}, api.Carried{Code: api.ErrBus, Used: 3}},
		{[]int{lost, lost, deaf, good}, api.Carried{Code: api.ErrBus, Got: "ab", Used: 3}},
		{[]int{good, lost, lost, deaf}, api.Carried{Code: api.ErrBus, Got: "abc", Done: 2, Used: 4}},
		{[]int{lost, lost}, api.Carried{Code: api.ErrTime, Used: 2}},
		{[]int{lost, lost, good, lost, lost, good}, api.Carried{Code: api.OK, Got: "abc", Done: 3, Used: 6}},
		{[]int{lost, lost, busy, busy, busy, lost}, api.Carried{Code: api.ErrBus, Used: 6}},
		{[]int{busy, busy, busy, busy}, api.Carried{Code: api.ErrTime, Used: 4}},
		{[]int{lost, busy, lost, busy}, api.Carried{Code: api.ErrTime, Used: 4}},
		{[]int{stall}, api.Carried{Code: api.ErrStall, Used: 1}},
		{[]int{stall, good, good}, api.Carried{Code: api.ErrStall, Used: 1}},
		{[]int{good, stall, good}, api.Carried{Code: api.ErrStall, Got: "ab", Done: 2, Used: 2}},
		{[]int{deaf, stall}, api.Carried{Code: api.ErrStall, Got: "ab", Used: 2}},
		{[]int{lost, lost, stall}, api.Carried{Code: api.ErrStall, Used: 3}},
		{[]int{lost, lost, lost, stall}, api.Carried{Code: api.ErrBus, Used: 3}},
	}
	for _, c := range cases {
		carry(t, "abc", 2, c.row, c.want)
	}
}

// The empty piece is carried like any other, and only with it all is over.
func TestCarryEmptyPiece(t *testing.T) {
	const good, lost, deaf = api.FGood, api.FLost, api.FDeaf
	carry(t, "", 1, nil, api.Carried{Code: api.ErrTime})
	carry(t, "", 64, []int{good}, api.Carried{Code: api.OK, Used: 1})
	carry(t, "", 64, []int{deaf}, api.Carried{Code: api.ErrTime, Used: 1})
	carry(t, "", 64, []int{lost, lost, lost}, api.Carried{Code: api.ErrBus, Used: 3})
	carry(t, "ab", 2, []int{good}, api.Carried{Code: api.ErrTime, Got: "ab", Done: 2, Used: 1})
	carry(t, "ab", 2, []int{good, good, good}, api.Carried{Code: api.OK, Got: "ab", Done: 2, Used: 2})
	carry(t, "ab", 2, []int{good, deaf, lost, deaf}, api.Carried{Code: api.ErrBus, Got: "ab", Done: 2, Used: 4})
	carry(t, "aaaa", 2, []int{deaf, good, deaf, good, deaf, good}, api.Carried{Code: api.OK, Got: "aaaa", Done: 4, Used: 6})
}

// All rows of up to seven fates.
func TestCarryAllShort(t *testing.T) {
	rows := [][]int{nil}
	for range 8 {
		for _, row := range rows {
			for _, text := range []string{"", "a", "ab", "abc", "abcdef"} {
				carry(t, text, 2, row, after(text, 2, row))
			}
		}
		var longer [][]int
		for _, row := range rows {
			for _, fate := range fates {
				longer = append(longer, append(slices.Clone(row), fate))
			}
		}
		rows = longer
	}
}

// Long rows, most of which go far: few strikes, and no stall but here and there.
func TestCarryLong(t *testing.T) {
	d := dice{10}
	seen := map[api.Errno]int{}
	for range 600 {
		size := 1 + d.below(64)
		text := worded(d.below(min(4096, 200*size-1) + 1))
		row := make([]int, d.below(1001))
		bad := 2 + d.below(60)
		for i := range row {
			row[i] = api.FGood
			if d.below(bad) == 0 {
				row[i] = []int{api.FLost, api.FDeaf, api.FBusy}[d.below(3)]
			}
			if d.below(1500) == 0 {
				row[i] = api.FStall
			}
		}
		want := after(text, size, row)
		seen[want.Code]++
		carry(t, text, size, row, want)
	}
	for _, code := range []api.Errno{api.OK, api.ErrStall, api.ErrBus, api.ErrTime} {
		if seen[code] < 10 {
			t.Errorf("only %d rows ended with %d", seen[code], code)
		}
	}
}

// Nothing comes twice, nothing is left out.
func TestCarryTakesABeginning(t *testing.T) {
	d := dice{4}
	for range 3000 {
		size := 1 + d.below(5)
		text := strings.Repeat("ab", 30)[:d.below(50)]
		row := make([]int, d.below(80))
		for i := range row {
			row[i] = []int{1, 1, 1, 2, 3, 3, 4}[d.below(7)]
		}
		got, code := Carry(text, size, row)
		if code != api.OK || !strings.HasPrefix(text, got.Got) || got.Done > len(got.Got) || len(got.Got) > got.Done+size {
			t.Fatalf("Carry(%q, %d, %v): %#v %d", text, size, row, got, code)
		}
		if got.Code == api.OK && (got.Got != text || got.Done != len(text)) {
			t.Fatalf("Carry(%q, %d, %v): %#v", text, size, row, got)
		}
	}
}

func TestCarryPieces(t *testing.T) {
	for size := 1; size <= 64; size++ {
		for _, length := range []int{199*size - 1, 199 * size, 200*size - 1, 200 * size, 200*size + 1, 4095, 4096, 4097} {
			text := strings.Repeat("x", length)
			if length > 4096 || length >= 200*size {
				noCarry(t, text, size, repeated(api.FGood, 1000), api.ErrLarge)
				continue
			}
			count := length/size + 1
			carry(t, text, size, repeated(api.FGood, 1000), api.Carried{Code: api.OK, Got: text, Done: length, Used: count})
			carry(t, text, size, repeated(api.FGood, count), api.Carried{Code: api.OK, Got: text, Done: length, Used: count})
			carry(t, text, size, repeated(api.FGood, count-1), after(text, size, repeated(api.FGood, count-1)))
		}
	}
}

func TestCarryManyFates(t *testing.T) {
	carry(t, "abc", 2, repeated(api.FBusy, 1000), api.Carried{Code: api.ErrTime, Used: 1000})
	carry(t, "abc", 3, append(repeated(api.FBusy, 998), api.FGood, api.FGood), api.Carried{Code: api.OK, Got: "abc", Done: 3, Used: 1000})
	text := worded(199)
	row := slices.Repeat([]int{api.FDeaf, api.FBusy, api.FLost, api.FBusy, api.FGood}, 200)
	carry(t, text, 1, row, api.Carried{Code: api.OK, Got: text, Done: 199, Used: 1000})
	for _, count := range []int{1001, 1002, 2000, 65537} {
		for _, fate := range fates {
			noCarry(t, "", 1, repeated(fate, count), api.ErrLarge)
			noCarry(t, "abc", 2, repeated(fate, count), api.ErrLarge)
		}
	}
}

// A fate that is none is told wherever it stands, also where all would be over ahead of it.
func TestCarryFates(t *testing.T) {
	for n := -20; n < 40; n++ {
		if n < 1 || n > 5 {
			noCarry(t, "abc", 2, []int{n}, api.ErrArg)
		}
	}
	for _, n := range far {
		noCarry(t, "", 64, []int{n}, api.ErrArg)
	}
	for _, fate := range fates {
		for _, size := range []int{1, 2, 5, 1000} {
			for at := range size {
				row := repeated(fate, size)
				row[at] = []int{0, 6, -1, far[at%len(far)]}[at%4]
				noCarry(t, "abc", 2, row, api.ErrArg)
			}
		}
	}
}

func TestCarryOrder(t *testing.T) {
	for _, size := range append([]int{0}, far...) {
		noCarry(t, "", size, nil, api.ErrArg)
		noCarry(t, "abc", size, []int{api.FGood}, api.ErrArg)
		noCarry(t, worded(4097), size, make([]int, 1001), api.ErrArg)
		noCarry(t, worded(200), size, nil, api.ErrArg)
	}
	noCarry(t, worded(4097), 64, nil, api.ErrLarge)
	noCarry(t, worded(4097), 64, []int{0}, api.ErrLarge)
	noCarry(t, worded(200), 1, nil, api.ErrLarge)
	noCarry(t, worded(200), 1, []int{0}, api.ErrLarge)
	noCarry(t, "abc", 2, make([]int, 1001), api.ErrLarge)
	noCarry(t, "abc", 2, append(repeated(api.FGood, 1000), 6), api.ErrLarge)
	noCarry(t, "abc", 2, make([]int, 1000), api.ErrArg)
}

// P2

func TestSplitIsNewMemory(t *testing.T) {
	for _, text := range []string{"", "a", "ab", "abcde"} {
		first, _ := Split(text, 2)
		filled := first[:cap(first)]
		for i := range filled {
			filled[i] = "filled"
		}
		if again, code := Split(text, 2); code != api.OK || !slices.Equal(again, cut(text, 2)) {
			t.Errorf("%q %d", again, code)
		}
	}
}

func TestJoinChangesNothing(t *testing.T) {
	for _, row := range [][]string{{}, {""}, {"a"}, {"ab", "cd", ""}, {"ab", "c"}, {"a", "b"}} {
		whole := append(slices.Clone(row), "room", "room")
		ahead := slices.Clone(whole)
		Join(whole[:len(row)], 2)
		if !slices.Equal(whole, ahead) {
			t.Errorf("Join changed %q to %q", ahead, whole)
		}
	}
}

func TestCarryChangesNothing(t *testing.T) {
	for _, row := range [][]int{{}, {1, 1}, {3, 1, 1}, {2, 2, 2, 1}, {5}, {4}, {0}} {
		whole := append(slices.Clone(row), 77, 78)
		ahead := slices.Clone(whole)
		Carry("abc", 2, whole[:len(row)])
		if !slices.Equal(whole, ahead) {
			t.Errorf("Carry changed %v to %v", ahead, whole)
		}
	}
}

func TestSameAnswerAgain(t *testing.T) {
	for range 3 {
		carry(t, "abc", 2, []int{api.FLost, api.FLost}, api.Carried{Code: api.ErrTime, Used: 2})
		carry(t, "abc", 2, []int{api.FLost, api.FDeaf}, api.Carried{Code: api.ErrTime, Got: "ab", Used: 2})
		noCarry(t, "abc", 2, []int{0}, api.ErrArg)
		noJoin(t, []string{"ab"}, 2, api.ErrForm)
		join(t, []string{"ab", ""}, 2, "ab")
	}
}
