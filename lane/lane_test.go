package lane

import (
	"fmt"
	"strings"
	"testing"

	"plugtree/api"
)

type answer struct {
	text string
	code api.Errno
}

func told(text string, code api.Errno) answer { return answer{text, code} }

func expect(t *testing.T, what string, got, want answer) {
	t.Helper()
	if got != want {
		t.Errorf("%s: %q %d, not %q %d", what, got.text, got.code, want.text, want.code)
	}
}

// rows are all rows of at most so many bits.
func rows(most int) []string {
	all := []string{""}
	for from := 0; len(all[from]) < most; from++ {
		all = append(all, all[from]+"0", all[from]+"1")
	}
	return all
}

// wrongSigns are all bytes but these two.
func wrongSigns(a, b byte) []string {
	var signs []string
	for n := range 256 {
		if s := byte(n); s != a && s != b {
			signs = append(signs, string([]byte{s}))
		}
	}
	return signs
}

// wrongTexts have one wrong sign, at the front, in the middle, at the end,
// and with as many signs as bring the other errors along.
func wrongTexts(a, b byte) []string {
	good := strings.Repeat(string([]byte{a, b}), 4)
	ones := strings.Repeat(string([]byte{b}), 7)
	var texts []string
	for _, bad := range wrongSigns(a, b) {
		texts = append(texts, bad, bad+good, good+bad, good[:3]+bad+good[4:], ones+bad)
	}
	return append(texts, "é", "０", good+"\xff\xfe", good+"\x00", " "+good, good+"\n")
}

// P1.1

func TestBits(t *testing.T) {
	for s, want := range map[string]string{
		"":             "",
		"\x00":         "00000000",
		"\xff":         "11111111",
		"\x01":         "10000000",
		"\x80":         "00000001",
		"a":            "10000110",
		"\x01\x80":     "1000000000000001",
		"\xc3\x28":     "1100001100010100",
		"\x0f\xf0\x55": "111100000000111110101010",
	} {
		if got := Bits(s); got != want {
			t.Errorf("Bits(%q): %s, not %s", s, got, want)
		}
	}
}

func TestBytes(t *testing.T) {
	expect(t, "empty", told(Bytes("")), told("", api.OK))
	expect(t, "one byte", told(Bytes("10000110")), told("a", api.OK))
	expect(t, "two bytes", told(Bytes("1000000000000001")), told("\x01\x80", api.OK))
	for bits := range 40 {
		want := answer{"", api.ErrForm}
		if bits%8 == 0 {
			want = answer{strings.Repeat("\xff", bits/8), api.OK}
		}
		expect(t, fmt.Sprint(bits, " ones"), told(Bytes(strings.Repeat("1", bits))), want)
	}
}

func TestBytesOfBits(t *testing.T) {
	for hi := range 256 {
		for lo := range 256 {
			s := string([]byte{byte(lo), byte(hi)})
			row := Bits(s)
			if want := backward(fmt.Sprintf("%016b", hi<<8|lo)); row != want {
				t.Fatalf("Bits(%q): %s, not %s", s, row, want)
			}
			expect(t, row, told(Bytes(row)), told(s, api.OK))
		}
	}
}

func backward(s string) string {
	b := []byte(s)
	for i, k := 0, len(b)-1; i < k; i, k = i+1, k-1 {
		b[i], b[k] = b[k], b[i]
	}
	return string(b)
}

// P1.2

func TestStuff(t *testing.T) {
	for row, want := range map[string]string{
		"":                "",
		"0":               "0",
		"11111":           "11111",
		"111111":          "1111110",
		"1111110":         "11111100",
		"11111110":        "111111010",
		"1111101":         "1111101",
		"0111111":         "01111110",
		"111111111111":    "11111101111110",
		"11111111111":     "111111011111",
		"111110111111":    "1111101111110",
		"111111011111101": "11111100111111001",
	} {
		expect(t, "Stuff "+row, told(Stuff(row)), told(want, api.OK))
		expect(t, "Unstuff "+want, told(Unstuff(want)), told(row, api.OK))
	}
}

func TestUnstuffErrors(t *testing.T) {
	for row, want := range map[string]api.Errno{
		"111111":                api.ErrShort,
		"0111111":               api.ErrShort,
		"1111110111111":         api.ErrShort,
		"1111111":               api.ErrStuff,
		"01111111":              api.ErrStuff,
		"11111110":              api.ErrStuff,
		"11111101111111":        api.ErrStuff,
		"11111110111111":        api.ErrStuff,
		"111111101111110":       api.ErrStuff,
		"1111111111111":         api.ErrStuff,
		"111111x":               api.ErrArg,
		"1111111x":              api.ErrArg,
		"x111111":               api.ErrArg,
		"11111111111111111111K": api.ErrArg,
	} {
		expect(t, "Unstuff "+row, told(Unstuff(row)), told("", want))
	}
}

// Cutting a row behind each six ones says the same as counting them.
func TestStuffAllRows(t *testing.T) {
	for _, row := range rows(15) {
		want := strings.ReplaceAll(row, "111111", "1111110")
		expect(t, "Stuff "+row, told(Stuff(row)), told(want, api.OK))
		expect(t, "Unstuff "+want, told(Unstuff(want)), told(row, api.OK))
		expect(t, "Unstuff "+row, told(Unstuff(row)), cutBehindSix(row))
	}
}

func cutBehindSix(row string) answer {
	plain := ""
	for {
		front, back, found := strings.Cut(row, "111111")
		if !found {
			return answer{plain + row, api.OK}
		}
		if back == "" {
			return answer{"", api.ErrShort}
		}
		if back[0] == '1' {
			return answer{"", api.ErrStuff}
		}
		plain += front + "111111"
		row = back[1:]
	}
}

// P1.3

func TestTurn(t *testing.T) {
	for _, c := range []struct {
		row    string
		level  byte
		levels string
	}{
		{"", 'J', ""},
		{"", 'K', ""},
		{"0", 'J', "K"},
		{"0", 'K', "J"},
		{"1", 'J', "J"},
		{"1", 'K', "K"},
		{"00000001", 'J', "KJKJKJKK"},
		{"00000001", 'K', "JKJKJKJJ"},
		{"1101110", 'J', "JJKKKKJ"},
		{"1101110", 'K', "KKJJJJK"},
	} {
		expect(t, "Turn "+c.row, told(Turn(c.row, c.level)), told(c.levels, api.OK))
		expect(t, "Unturn "+c.levels, told(Unturn(c.levels, c.level)), told(c.row, api.OK))
	}
}

// The level is another one than at first behind an odd number of zeros.
func TestTurnAllRows(t *testing.T) {
	for _, row := range rows(12) {
		for first, level := range []byte("JK") {
			want := ""
			for i := range row {
				zeros := strings.Count(row[:i+1], "0")
				want += string("JK"[(first+zeros)%2])
			}
			expect(t, "Turn "+row, told(Turn(row, level)), told(want, api.OK))
			expect(t, "Unturn "+want, told(Unturn(want, level)), told(row, api.OK))
		}
	}
}

func TestWrongLevel(t *testing.T) {
	for _, bad := range wrongSigns('J', 'K') {
		for _, row := range []string{"", "0", "1", "10110", "x"} {
			expect(t, "Turn at "+bad, told(Turn(row, bad[0])), told("", api.ErrArg))
		}
		for _, levels := range []string{"", "J", "K", "KJJK", bad} {
			expect(t, "Unturn at "+bad, told(Unturn(levels, bad[0])), told("", api.ErrArg))
		}
	}
}

// P1, P1.1 to P1.3: whatever is handed in is answered, with nothing beside an error.

func TestWrongSigns(t *testing.T) {
	wrong := answer{"", api.ErrArg}
	for _, row := range wrongTexts('0', '1') {
		expect(t, "Bytes "+row, told(Bytes(row)), wrong)
		expect(t, "Stuff "+row, told(Stuff(row)), wrong)
		expect(t, "Unstuff "+row, told(Unstuff(row)), wrong)
		expect(t, "Turn "+row, told(Turn(row, 'J')), wrong)
		expect(t, "Turn "+row, told(Turn(row, 'K')), wrong)
	}
	for _, levels := range wrongTexts('J', 'K') {
		expect(t, "Unturn "+levels, told(Unturn(levels, 'J')), wrong)
		expect(t, "Unturn "+levels, told(Unturn(levels, 'K')), wrong)
	}
}

func TestLongTexts(t *testing.T) {
	const size = 1 << 18
	row := Bits(strings.Repeat("\xff", size))
	if len(row) != 8*size || strings.Contains(row, "0") {
		t.Fatal("Bits", len(row))
	}
	expect(t, "Bytes", told(Bytes(row)), told(strings.Repeat("\xff", size), api.OK))
	stuffed, code := Stuff(row)
	if code != api.OK || len(stuffed) != len(row)+len(row)/6 {
		t.Fatal("Stuff", len(stuffed), code)
	}
	expect(t, "Unstuff", told(Unstuff(stuffed)), told(row, api.OK))
	levels, code := Turn(stuffed, 'K')
	if code != api.OK || len(levels) != len(stuffed) {
		t.Fatal("Turn", len(levels), code)
	}
	expect(t, "Unturn", told(Unturn(levels, 'K')), told(stuffed, api.OK))
}

// P2: what was asked before, right or wrong, is not to be seen in an answer.

func TestNothingIsKept(t *testing.T) {
	asks := []func() answer{
		func() answer { return answer{text: Bits("ab\xff")} },
		func() answer { return told(Bytes("1000011001000110")) },
		func() answer { return told(Bytes("100")) },
		func() answer { return told(Stuff("11111")) },
		func() answer { return told(Stuff("1111111")) },
		func() answer { return told(Unstuff("11111")) },
		func() answer { return told(Unstuff("111111")) },
		func() answer { return told(Unstuff("1111111")) },
		func() answer { return told(Turn("010", 'J')) },
		func() answer { return told(Turn("010", 'K')) },
		func() answer { return told(Turn("010", 'x')) },
		func() answer { return told(Unturn("JJK", 'J')) },
		func() answer { return told(Unturn("JJK", 'K')) },
	}
	var first []answer
	for _, ask := range asks {
		first = append(first, ask())
	}
	for before := range asks {
		for i, ask := range asks {
			asks[before]()
			expect(t, fmt.Sprint("ask ", i, " behind ", before), ask(), first[i])
		}
	}
}
