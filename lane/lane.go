// Package lane: bits, stuffed bits, levels: see doc/01-lane.md.
package lane

import "plugtree/api"

const (
	byteBits = 8
	maxOnes  = 6 // ones in a row, behind which a 0 is put
)

// Bits tells the bits of each byte of s, the lowest first: P1.1.
func Bits(s string) string {
	row := make([]byte, 0, byteBits*len(s))
	for i := range len(s) {
		for k := range byteBits {
			row = append(row, sign(s[i]>>k&1 == 1))
		}
	}
	return string(row)
}

// Bytes is the text that has these bits: P1.1.
func Bytes(row string) (string, api.Errno) {
	if !isRow(row) {
		return "", api.ErrArg
	}
	if len(row)%byteBits != 0 {
		return "", api.ErrForm
	}
	text := make([]byte, 0, len(row)/byteBits)
	for at := 0; at < len(row); at += byteBits {
		text = append(text, byteOf(row[at:at+byteBits]))
	}
	return string(text), api.OK
}

// Stuff puts a 0 behind each sixth 1 in a row: P1.2.
func Stuff(row string) (string, api.Errno) {
	if !isRow(row) {
		return "", api.ErrArg
	}
	stuffed := make([]byte, 0, len(row)+len(row)/maxOnes)
	ones := 0
	for i := range len(row) {
		stuffed = append(stuffed, row[i])
		ones = onesAfter(ones, row[i])
		if ones == maxOnes {
			stuffed = append(stuffed, '0')
			ones = 0
		}
	}
	return string(stuffed), api.OK
}

// Unstuff leaves out each bit that stands behind six ones in a row: P1.2.
func Unstuff(row string) (string, api.Errno) {
	if !isRow(row) {
		return "", api.ErrArg
	}
	plain := make([]byte, 0, len(row))
	ones := 0
	for i := range len(row) {
		if ones < maxOnes {
			plain = append(plain, row[i])
		} else if row[i] == '1' {
			return "", api.ErrStuff
		}
		ones = onesAfter(ones, row[i])
	}
	if ones == maxOnes {
		return "", api.ErrShort
	}
	return string(plain), api.OK
}

// Turn tells the level of each bit, behind the given level: P1.3.
func Turn(row string, level byte) (string, api.Errno) {
	if !isRow(row) || !isLevel(level) {
		return "", api.ErrArg
	}
	levels := make([]byte, 0, len(row))
	for i := range len(row) {
		if row[i] == '0' {
			level = other(level)
		}
		levels = append(levels, level)
	}
	return string(levels), api.OK
}

// Unturn is the row that has these levels, behind the given level: P1.3.
func Unturn(levels string, level byte) (string, api.Errno) {
	if !areLevels(levels) || !isLevel(level) {
		return "", api.ErrArg
	}
	row := make([]byte, 0, len(levels))
	for i := range len(levels) {
		row = append(row, sign(levels[i] == level))
		level = levels[i]
	}
	return string(row), api.OK
}

func isRow(s string) bool {
	for i := range len(s) {
		if s[i] != '0' && s[i] != '1' {
			return false
		}
	}
	return true
}

func areLevels(s string) bool {
	for i := range len(s) {
		if !isLevel(s[i]) {
			return false
		}
	}
	return true
}

func isLevel(b byte) bool { return b == 'J' || b == 'K' }

func other(level byte) byte {
	if level == 'J' {
		return 'K'
	}
	return 'J'
}

func sign(bit bool) byte {
	if bit {
		return '1'
	}
	return '0'
}

// byteOf goes from the back, as the lowest bit stands first.
func byteOf(row string) byte {
	b := byte(0)
	for i := len(row) - 1; i >= 0; i-- {
		b = b<<1 | (row[i] - '0')
	}
	return b
}

func onesAfter(ones int, bit byte) int {
	if bit == '1' {
		return ones + 1
	}
	return 0
}
