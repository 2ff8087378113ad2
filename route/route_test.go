package route

import (
	"math"
	"regexp"
	"slices"
	"strconv"
	"strings"
	"testing"

	"plugtree/api"
)

// far are numbers that no port has, many of them such that their lower bits are some port's.
var far = []int{-1, -2, -15, -16, -241, -255, 0, 16, 17, 18, 31, 32, 33, 255, 256, 257, 1 << 16, 1<<16 + 1, 1 << 31, 1<<31 + 1, 1 << 32, 1<<32 + 1, 1<<32 + 15, 1<<40 + 3, 1 << 62, 1<<62 + 2, math.MinInt, math.MinInt + 1, math.MinInt + 15, math.MinInt32, math.MaxInt, math.MaxInt - 1}

// shown is what P16.3 says of a path's text.
var shown = regexp.MustCompile(`^([1-9]|1[0-5])(\.([1-9]|1[0-5])){0,5}$`)

// dice are numbers that are the same in each run.
type dice struct{ n uint64 }

func (d *dice) below(most int) int {
	d.n = d.n*6364136223846793005 + 1442695040888963407
	return int(d.n>>33) % most
}

// path is one with so many ports.
func (d *dice) path(count int) []int {
	list := make([]int, count)
	for i := range list {
		list[i] = 1 + d.below(15)
	}
	return list
}

// lists calls what it is given with each list of so many of these numbers.
func lists(count int, of []int, call func(list []int)) {
	list := make([]int, count)
	var lay func(at int)
	lay = func(at int) {
		if at == count {
			call(slices.Clone(list))
			return
		}
		for _, n := range of {
			list[at] = n
			lay(at + 1)
		}
	}
	lay(0)
}

// paths calls what it is given with all paths of up to four ports, and many of five and six.
func paths(call func(path []int)) {
	all := make([]int, 15)
	for i := range all {
		all[i] = i + 1
	}
	for count := 1; count <= 4; count++ {
		lists(count, all, call)
	}
	for count := 5; count <= 6; count++ {
		lists(count, []int{1, 2, 9, 10, 15}, call)
		d := dice{uint64(count)}
		for range 10000 {
			call(d.path(count))
		}
	}
}

// refused holds that whatever is made of a path tells what is wrong with it.
func refused(t *testing.T, path []int, want api.Errno) {
	t.Helper()
	if code := Check(path); code != want {
		t.Fatalf("Check(%v): %d, not %d", path, code, want)
	}
	if n, code := Pack(path); n != 0 || code != want {
		t.Fatalf("Pack(%v): %d %d, not %d", path, n, code, want)
	}
	if s, code := Show(path); s != "" || code != want {
		t.Fatalf("Show(%v): %q %d, not %d", path, s, code, want)
	}
}

// packed holds that a path has this number, and this number this path.
func packed(t *testing.T, path []int, want int) {
	t.Helper()
	if n, code := Pack(path); n != want || code != api.OK {
		t.Fatalf("Pack(%v): %x %d, not %x", path, n, code, want)
	}
	if l, code := Unpack(want); !slices.Equal(l, path) || code != api.OK {
		t.Fatalf("Unpack(%x): %v %d, not %v", want, l, code, path)
	}
}

func noNumber(t *testing.T, n int) {
	t.Helper()
	if l, code := Unpack(n); len(l) > 0 || code != api.ErrForm {
		t.Fatalf("Unpack(%x): %v %d", n, l, code)
	}
}

// told holds that a path has this text, and this text this path.
func told(t *testing.T, path []int, want string) {
	t.Helper()
	if s, code := Show(path); s != want || code != api.OK {
		t.Fatalf("Show(%v): %q %d, not %q", path, s, code, want)
	}
	if l, code := Read(want); !slices.Equal(l, path) || code != api.OK {
		t.Fatalf("Read(%q): %v %d, not %v", want, l, code, path)
	}
}

func noText(t *testing.T, s string) {
	t.Helper()
	if l, code := Read(s); len(l) > 0 || code != api.ErrForm {
		t.Fatalf("Read(%.40q) of %d bytes: %v %d", s, len(s), l, code)
	}
}

// read holds that a text is read if it has the form of one that is shown, and then as the path that has it.
func read(t *testing.T, s string) {
	t.Helper()
	if !shown.MatchString(s) {
		noText(t, s)
		return
	}
	l, code := Read(s)
	if code != api.OK || len(l) != strings.Count(s, ".")+1 {
		t.Fatalf("Read(%q): %v %d", s, l, code)
	}
	told(t, l, s)
}

// P16.1

func TestCheckPorts(t *testing.T) {
	for count := 1; count <= 6; count++ {
		for at := range count {
			for port := 1; port <= 15; port++ {
				path := slices.Repeat([]int{7}, count)
				path[at] = port
				if code := Check(path); code != api.OK {
					t.Fatal(path, code)
				}
			}
			for _, n := range far {
				path := slices.Repeat([]int{7}, count)
				path[at] = n
				refused(t, path, api.ErrArg)
			}
		}
	}
}

func TestCheckNoPort(t *testing.T) {
	refused(t, nil, api.ErrArg)
	refused(t, []int{}, api.ErrArg)
	refused(t, []int{1, 2}[:0], api.ErrArg)
}

// That there are too many ports is told ahead of what is wrong with one.
func TestCheckLarge(t *testing.T) {
	for _, count := range []int{7, 8, 15, 16, 17, 255, 256, 257, 262, 65536, 65537, 65542, 1 << 20} {
		for _, n := range []int{1, 15, 0, 16, -1, math.MinInt} {
			refused(t, slices.Repeat([]int{n}, count), api.ErrLarge)
		}
	}
	for count := 1; count <= 6; count++ {
		refused(t, make([]int, count), api.ErrArg)
	}
}

// P16.2

func TestPackExamples(t *testing.T) {
	packed(t, []int{1}, 1)
	packed(t, []int{15}, 15)
	packed(t, []int{2, 15, 1}, 0x1f2)
	packed(t, []int{1, 2, 3, 4, 5, 6}, 0x654321)
	packed(t, []int{1, 1, 1, 1, 1, 1}, 0x111111)
	packed(t, []int{15, 15, 15, 15, 15, 15}, 0xffffff)
}

func TestPackAll(t *testing.T) {
	paths(func(path []int) {
		want, times := 0, 1
		for _, port := range path {
			want += port * times
			times *= 16
		}
		packed(t, path, want)
	})
}

func TestUnpackExamples(t *testing.T) {
	for _, n := range []int{0, -1, -2, 0x10, 0x20, 0x102, 0x100, 0x10203, 0x101111, 0x111110, 0x110111, 0x1000000, 0x1111111, 0xfffffff, 0x1ffffff, 0x11111111, -0x111111, math.MinInt, math.MinInt + 1, math.MinInt + 0x111111, math.MaxInt, math.MaxInt32, math.MinInt32, math.MaxUint32} {
		noNumber(t, n)
	}
}

// hasPath is what P16.2 says of a number, digit by digit in base 16.
func hasPath(n int) bool {
	return n > 0 && n < 1<<24 && !strings.Contains(strconv.FormatInt(int64(n), 16), "0")
}

func unpacked(t *testing.T, n int) {
	t.Helper()
	if !hasPath(n) {
		noNumber(t, n)
		return
	}
	l, code := Unpack(n)
	if code != api.OK {
		t.Fatalf("Unpack(%x): %d", n, code)
	}
	packed(t, l, n)
}

func TestUnpackAll(t *testing.T) {
	for n := -70000; n <= 1<<17; n++ {
		unpacked(t, n)
	}
	for n := 1 << 17; n < 1<<26; n += 251 {
		unpacked(t, n)
		unpacked(t, -n)
	}
	for n := 1<<24 - 1000; n < 1<<24+70000; n++ {
		unpacked(t, n)
	}
}

// Bits above those of six ports are 0, each of them.
func TestUnpackBitsAbove(t *testing.T) {
	for bit := 24; bit < strconv.IntSize; bit++ {
		for _, n := range []int{0, 1, 0x21, 0x1f2, 0x4321, 0x54321, 0x654321, 0xffffff} {
			noNumber(t, n|1<<bit)
			noNumber(t, n|-1<<bit)
		}
	}
}

// P16.3

func TestShowExamples(t *testing.T) {
	told(t, []int{1}, "1")
	told(t, []int{10}, "10")
	told(t, []int{15}, "15")
	told(t, []int{2, 15, 1}, "2.15.1")
	told(t, []int{1, 2, 3, 4, 5, 15}, "1.2.3.4.5.15")
	told(t, []int{15, 15, 15, 15, 15, 15}, "15.15.15.15.15.15")
	told(t, []int{1, 1}, "1.1")
	told(t, []int{11}, "11")
}

func TestShowAll(t *testing.T) {
	paths(func(path []int) {
		want := ""
		for i, port := range path {
			if i > 0 {
				want += "."
			}
			if port > 9 {
				want += "1"
			}
			want += string("0123456789"[port%10])
		}
		told(t, path, want)
	})
}

func TestReadExamples(t *testing.T) {
	for _, s := range []string{
		"", ".", "..", "1.", ".1", "1..2", "1.2.", ".1.2", "1...2", "......", ".1.1.1.1.1", "1.1.1.1.1.",
		"0", "00", "01", "001", "010", "1.0", "0.1", "1.02", "1.2.015", "1.0.1",
		"16", "19", "20", "99", "100", "115", "151", "1.16", "16.1", "1.2.3.4.5.16", "12.3456",
		"1.1.1.1.1.1.1", "1.1.1.1.1.1.", "1.1.1.1.1.1.1.1", "1.1.1.1.1.1.x", "1.1.1.1.1.1.0", "1.1.1.1.1.11.1",
		"x", "+1", "-1", "-0", "+0", "1.+2", "1.-2", "--1", "1-", "1+", "0x1", "0b1", "0o1", "1e0", "1_0", "_1", "1_", "a", "f",
		" 1", "1 ", "1. 2", "1 .2", "\t1", "1\n", "\n1", "1\r\n", "1\x00", "\x001", "1.2\x00", "1,2", "1:2", "1/2", "1;2", "1.2\n3",
		"\xef\xbc\x91", "\xd9\xa1", "1\xc2\xb7" + "2", "1\xff", "\xff", "\x80", "1\xe3\x80\x82" + "2", "\xef\xbb\xbf1", "\"1\"",
		"257", "258", "-255", "65537", "4294967297", "4294967298", "18446744073709551617", "9223372036854775807", "9223372036854775808", "-9223372036854775808", "-18446744073709551615", "340282366920938463463374607431768211457",
	} {
		noText(t, s)
	}
}

// texts calls what it is given with all texts of so many of these signs.
func texts(count int, of string, call func(s string)) {
	signs := make([]int, len(of))
	for i := range signs {
		signs[i] = int(of[i])
	}
	lists(count, signs, func(list []int) {
		text := make([]byte, count)
		for i, sign := range list {
			text[i] = byte(sign)
		}
		call(string(text))
	})
}

func TestReadAllSmall(t *testing.T) {
	for count := range 7 {
		texts(count, "01569.+-", func(s string) { read(t, s) })
	}
	for count := range 3 {
		all := make([]byte, 256)
		for i := range all {
			all[i] = byte(i)
		}
		texts(count, string(all), func(s string) { read(t, s) })
	}
	for count := 11; count <= 13; count++ {
		texts(count, "1.", func(s string) { read(t, s) })
	}
}

// A text that is one byte away from one that is shown is read only if it is shown as well.
func TestReadSlips(t *testing.T) {
	for _, s := range []string{"1", "15", "2.15.1", "1.2.3.4.5.15", "9.10.11.12.13.14", "15.15.15.15.15.15"} {
		for at := range len(s) + 1 {
			for sign := range 256 {
				read(t, s[:at]+string([]byte{byte(sign)})+s[at:])
				if at < len(s) {
					read(t, s[:at]+string([]byte{byte(sign)})+s[at+1:])
				}
			}
			if at < len(s) {
				read(t, s[:at]+s[at+1:])
			}
		}
	}
}

func TestReadThrown(t *testing.T) {
	d := dice{3}
	right := 0
	for range 200000 {
		var parts []string
		for range 1 + d.below(7) {
			parts = append(parts, strconv.Itoa(d.below(17)))
		}
		s := strings.Join(parts, ".")
		read(t, s)
		if shown.MatchString(s) {
			right++
		}
	}
	if right < 10000 || right > 190000 {
		t.Error(right)
	}
}

func TestReadLong(t *testing.T) {
	const many = 1 << 20
	for _, s := range []string{
		strings.Repeat("1.", many), strings.Repeat("1.", many) + "1", strings.Repeat(".", many), strings.Repeat("1", many), strings.Repeat("0", many) + "1",
		"1." + strings.Repeat("0", many) + "2", strings.Repeat("\xff", many), "1.2" + strings.Repeat(" ", many), "1.1.1.1.1.1." + strings.Repeat("x", many),
	} {
		noText(t, s)
	}
}

// P16.4

// tree holds what is told of two lists against the chapter's words.
func tree(t *testing.T, a, b []int) {
	t.Helper()
	met := 0
	for k := range min(len(a), len(b)) + 1 {
		if slices.Equal(a[:k], b[:k]) {
			met = k
		}
	}
	if l := Meet(a, b); !slices.Equal(l, a[:met]) {
		t.Fatalf("Meet(%v, %v): %v", a, b, l)
	}
	if is := Under(a, b); is != (len(b) <= len(a) && slices.Equal(a[:min(len(a), len(b))], b)) {
		t.Fatalf("Under(%v, %v): %v", a, b, is)
	}
	if n := Hops(a, b); n != len(a)+len(b)-2*met {
		t.Fatalf("Hops(%v, %v): %d", a, b, n)
	}
	if n := Order(a, b); n != ahead(a, b, met) {
		t.Fatalf("Order(%v, %v): %d", a, b, n)
	}
}

// ahead is what P16.4 says of Order, of two lists that have the first so many numbers in common.
func ahead(a, b []int, met int) int {
	switch {
	case met == len(a) && met == len(b):
		return 0
	case met == len(a):
		return -1
	case met == len(b):
		return 1
	case a[met] < b[met]:
		return -1
	}
	return 1
}

func TestTreeExamples(t *testing.T) {
	for _, c := range []struct {
		a, b, meet  []int
		under       bool
		hops, order int
	}{
		{[]int{2, 1}, []int{2, 3, 4}, []int{2}, false, 3, -1},
		{[]int{2, 3, 4}, []int{2, 1}, []int{2}, false, 3, 1},
		{[]int{2, 15, 1}, []int{2, 15}, []int{2, 15}, true, 1, 1},
		{[]int{2, 15}, []int{2, 15, 1}, []int{2, 15}, false, 1, -1},
		{[]int{2, 15}, []int{2, 15}, []int{2, 15}, true, 0, 0},
		{[]int{2, 15}, nil, nil, true, 2, 1},
		{nil, []int{2, 15}, nil, false, 2, -1},
		{nil, nil, nil, true, 0, 0},
		{[]int{}, nil, nil, true, 0, 0},
		{nil, []int{}, nil, true, 0, 0},
		{[]int{1, 9, 9}, []int{2}, nil, false, 4, -1},
		{[]int{10}, []int{9}, nil, false, 2, 1},
		{[]int{1, 2, 3}, []int{3, 2, 1}, nil, false, 6, -1},
		{[]int{1, 5, 3}, []int{1, 4, 3}, []int{1}, false, 4, 1},
		{[]int{0}, []int{-1}, nil, false, 2, 1},
		{[]int{math.MinInt}, []int{math.MaxInt}, nil, false, 2, -1},
		{[]int{math.MaxInt}, []int{math.MinInt}, nil, false, 2, 1},
		{[]int{math.MaxInt}, []int{-1}, nil, false, 2, 1},
		{[]int{math.MinInt}, []int{1}, nil, false, 2, -1},
		{[]int{1}, []int{1<<32 + 1}, nil, false, 2, -1},
		{[]int{-5, 0}, []int{-5, 0, 0}, []int{-5, 0}, false, 1, -1},
	} {
		if l := Meet(c.a, c.b); !slices.Equal(l, c.meet) {
			t.Error(c, l)
		}
		if Under(c.a, c.b) != c.under || Hops(c.a, c.b) != c.hops || Order(c.a, c.b) != c.order {
			t.Error(c, Under(c.a, c.b), Hops(c.a, c.b), Order(c.a, c.b))
		}
	}
}

func TestTreeAllSmall(t *testing.T) {
	for _, of := range [][]int{{1, 2, 15}, {math.MinInt, 0, math.MaxInt}, {-1, 16, 1<<32 + 16}} {
		var all [][]int
		for count := range 5 {
			lists(count, of, func(list []int) { all = append(all, list) })
		}
		for _, a := range all {
			for _, b := range all {
				tree(t, a, b)
			}
		}
	}
}

func TestTreeThrown(t *testing.T) {
	d := dice{4}
	for range 100000 {
		a, b := d.path(d.below(9)), d.path(d.below(9))
		copy(b, a[:d.below(len(a)+1)])
		tree(t, a, b)
		if len(a) > 0 {
			a[d.below(len(a))] = far[d.below(len(far))]
			tree(t, a, b)
			tree(t, b, a)
		}
	}
}

// Lists may be longer than any path.
func TestTreeLong(t *testing.T) {
	long := slices.Repeat([]int{3}, 1<<17)
	other := slices.Clone(long)
	for _, at := range []int{0, 6, 7, 255, 256, 65535, 65536, 1<<17 - 1} {
		short := long[:at]
		if len(Meet(long, short)) != at || Hops(short, long) != len(long)-at || !Under(long, short) || Under(short, long) || Order(long, short) != 1 || Order(short, long) != -1 {
			t.Error("a beginning of", at)
		}
		other[at] = 2
		if len(Meet(long, other)) != at || Hops(long, other) != 2*(len(long)-at) || Under(long, other) || Order(long, other) != 1 || Order(other, long) != -1 {
			t.Error("another at", at)
		}
		other[at] = 3
	}
	if !Under(long, other) || Order(long, other) != 0 || Hops(long, other) != 0 || !slices.Equal(Meet(long, other), long) {
		t.Error("the same")
	}
}

// In the order of their paths whoever is under a device comes right behind it.
func TestOrderSorts(t *testing.T) {
	var all [][]int
	for count := 1; count <= 4; count++ {
		lists(count, []int{1, 2, 9, 10}, func(list []int) { all = append(all, list) })
	}
	slices.Reverse(all)
	slices.SortFunc(all, Order)
	for i, path := range all {
		under := 0
		for _, other := range all {
			if Under(other, path) {
				under++
			}
		}
		for _, other := range all[i : i+under] {
			if !Under(other, path) {
				t.Fatal(path, other)
			}
		}
	}
}

type port int8

func TestCommonOfAnyKind(t *testing.T) {
	if common([]int8{-1, 2, 3}, []int8{-1, 2, 4}) != 2 || common([]uint64{math.MaxUint64}, []uint64{math.MaxUint64, 1}) != 1 || common([]port{1, 2}, []port{2, 1}) != 0 {
		t.Error("whole numbers")
	}
	if common([]float64{0.5, 1}, []float64{0.5, 1}) != 2 || common([]complex128{1i, 2}, []complex128{1i, 2i}) != 1 {
		t.Error("other numbers")
	}
}

// P2

// roomy is a list with spare room, which is filled.
func roomy(list []int, with int) []int {
	long := slices.Concat(list, slices.Repeat([]int{with}, 4))
	return long[:len(list)]
}

func whole(list []int) []int { return slices.Clone(list[:cap(list)]) }

// fill overwrites all that can be reached from a list.
func fill(list []int, with int) {
	list = list[:cap(list)]
	for i := range list {
		list[i] = with
	}
}

func TestAnswersAreNewMemory(t *testing.T) {
	for _, plain := range [][]int{nil, {1}, {2, 15, 1}, {2, 15}, {2, 3}, {1, 2, 3, 4, 5, 6}, {1, 1, 1, 1, 1, 1, 1}, {0, 16}, {-1}} {
		for _, second := range [][]int{nil, {2}, {2, 15, 1}, {1, 2, 3, 4, 5, 6}, {0}} {
			a, b := roomy(plain, 5), roomy(second, 5)
			aheadA, aheadB := whole(a), whole(b)
			for _, list := range [][]int{Meet(a, b), Meet(b, a), Meet(a, a), Meet(a, a[:len(a)/2])} {
				fill(list, -7)
			}
			Check(a)
			Pack(a)
			Show(a)
			Under(a, b)
			Hops(a, b)
			Order(a, b)
			if !slices.Equal(whole(a), aheadA) || !slices.Equal(whole(b), aheadB) {
				t.Error("what was handed in is changed:", plain, second)
			}
		}
	}
}

func TestSameAnswerAgain(t *testing.T) {
	for range 3 {
		packed(t, []int{2, 15, 1}, 0x1f2)
		told(t, []int{2, 15, 1}, "2.15.1")
		l, _ := Unpack(0x1f2)
		fill(l, -7)
		l, _ = Read("2.15.1")
		fill(l, -7)
		noNumber(t, 0x102)
		noText(t, "2.15.01")
		tree(t, []int{2, 15, 1}, []int{2, 3})
	}
}
