package crc

import (
	"strings"
	"testing"

	"plugtree/api"
)

// samples are texts of many lengths, with all bytes among them.
func samples() []string {
	all := make([]byte, 256)
	for i := range all {
		all[i] = byte(i)
	}
	texts := []string{"", "\x00", "\x00\x00", "\xff", "\xff\xff\xff", "a", "é", "123456789", string(all)}
	n := uint32(1)
	for size := range 90 {
		text := make([]byte, size)
		for i := range text {
			n = n*1664525 + 1013904223
			text[i] = byte(n >> 24)
		}
		texts = append(texts, string(text))
	}
	return texts
}

// divided makes a sum by another way: the bits, as a polynomial, are divided
// on paper, the highest power first, and what is left is told backward. What
// the register begins with is laid over the first bits.
func divided(begin uint32, row []byte, width int, divisor uint32) uint32 {
	work := append(append([]byte(nil), row...), make([]byte, width)...)
	for i := range width {
		work[i] ^= byte(begin >> i & 1)
	}
	for at := range row {
		if work[at] == 0 {
			continue
		}
		work[at] = 0
		for k := range width {
			work[at+1+k] ^= byte(divisor >> (width - 1 - k) & 1)
		}
	}
	left := uint32(0)
	for k, bit := range work[len(row):] {
		left |= uint32(bit^1) << k
	}
	return left
}

func rowOf(n uint32, count int) []byte {
	var row []byte
	for k := range count {
		row = append(row, byte(n>>k&1))
	}
	return row
}

func rowOfText(s string) []byte {
	var row []byte
	for i := range len(s) {
		row = append(row, rowOf(uint32(s[i]), 8)...)
	}
	return row
}

// P2.1

func TestFive(t *testing.T) {
	for n, want := range map[uint16]uint8{
		0x000: 2,
		0x001: 29,
		0x710: 5,
		0x715: 29,
		0x53a: 7,
		0x270: 14,
		0x7ff: 8,
	} {
		if got, code := Five(n); got != want || code != api.OK {
			t.Errorf("Five(%#x): %d %d, not %d", n, got, code, want)
		}
	}
}

func TestFiveAll(t *testing.T) {
	for n := range uint32(2048) {
		want := uint8(divided(31, rowOf(n, 11), 5, 0b00101))
		if got, code := Five(uint16(n)); got != want || code != api.OK {
			t.Errorf("Five(%d): %d %d, not %d", n, got, code, want)
		}
	}
}

// A register that took its own sum in stands at the same number, whatever came ahead.
func TestFiveTakesItsSum(t *testing.T) {
	for n := range uint16(2048) {
		sum, _ := Five(n)
		if left := feed[uint8](31, 20, n|uint16(sum)<<11, 16); left != 6 {
			t.Errorf("%d with its sum %d leaves %d", n, sum, left)
		}
	}
}

func TestFiveAbove(t *testing.T) {
	for n := 2048; n <= 65535; n++ {
		if got, code := Five(uint16(n)); got != 0 || code != api.ErrArg {
			t.Fatalf("Five(%d): %d %d", n, got, code)
		}
	}
}

// P2.2

func TestSixteen(t *testing.T) {
	for s, want := range map[string]uint16{
		"":                 0,
		"123456789":        0xb4c8,
		"\x00":             0xbf40,
		"\xff":             0xff00,
		"\x00\x01\x02\x03": 0x7aef,
		"\x23\x45\x67\x89": 0x1c0e,
	} {
		if got := Sixteen(s); got != want {
			t.Errorf("Sixteen(%q): %#x, not %#x", s, got, want)
		}
	}
}

func TestSixteenByDivision(t *testing.T) {
	for _, s := range samples() {
		want := uint16(divided(65535, rowOfText(s), 16, 0x8005))
		if got := Sixteen(s); got != want {
			t.Errorf("Sixteen(%q): %#x, not %#x", s, got, want)
		}
	}
}

func TestMoreByDivision(t *testing.T) {
	for n := range 65536 {
		for _, b := range []byte{0, 1, 0x55, 0x80, 0xff, byte(n), byte(n >> 8)} {
			want := uint16(divided(uint32(^uint16(n)), rowOf(uint32(b), 8), 16, 0x8005))
			if got := More(uint16(n), string([]byte{b})); got != want {
				t.Fatalf("More(%#x, %d): %#x, not %#x", n, b, got, want)
			}
		}
	}
}

func TestMoreOfNothing(t *testing.T) {
	for n := range 65536 {
		if got := More(uint16(n), ""); got != uint16(n) {
			t.Fatalf("More(%#x, nothing): %#x", n, got)
		}
	}
}

func TestMoreGoesOn(t *testing.T) {
	for _, s := range samples() {
		want := Sixteen(s)
		for cut := range len(s) + 1 {
			if got := More(Sixteen(s[:cut]), s[cut:]); got != want {
				t.Errorf("%q cut at %d: %#x, not %#x", s, cut, got, want)
			}
		}
	}
	if got := More(More(More(0, "123"), "456"), "789"); got != 0xb4c8 {
		t.Errorf("three parts: %#x", got)
	}
}

// With its sum behind it, the lower byte first, each text has the same sum.
func TestSixteenTakesItsSum(t *testing.T) {
	for _, s := range samples() {
		sum := Sixteen(s)
		if got := Sixteen(s + string([]byte{byte(sum), byte(sum >> 8)})); got != 0x4ffe {
			t.Errorf("%q with its sum: %#x", s, got)
		}
	}
}

// P1 and P2

func TestLongText(t *testing.T) {
	s := strings.Repeat("\xff\x00plugtree", 100000)
	half := len(s) / 2
	if Sixteen(s) != More(Sixteen(s[:half]), s[half:]) {
		t.Error("a long text, in halves")
	}
}

func TestSameAnswerAgain(t *testing.T) {
	first := Sixteen("abc")
	Five(2048)
	Five(7)
	More(first, "def")
	if got := Sixteen("abc"); got != first {
		t.Errorf("%#x, then %#x", first, got)
	}
}
