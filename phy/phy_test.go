package phy

import (
	"slices"
	"strings"
	"testing"

	"plugtree/api"
)

// some is a text of this size, with any bytes.
func some(size int) string {
	text := make([]byte, size)
	n := uint32(size)
	for i := range text {
		n = n*1664525 + 1013904223
		text[i] = byte(n >> 24)
	}
	return string(text)
}

// onWire tells the levels of these bits behind a lead, without an ending, by a way of its own.
func onWire(bits string) string {
	levels, ones, at := "", 0, byte('J')
	put := func(bit byte) {
		if bit == '0' {
			at, ones = 'J'+'K'-at, 0
		} else {
			ones++
		}
		levels += string(rune(at))
	}
	for _, bit := range []byte("00000001" + bits) {
		put(bit)
		if ones == 6 {
			put('0')
		}
	}
	return levels
}

func bitsOf(s string) string {
	bits := ""
	for _, b := range []byte(s) {
		for k := range 8 {
			bits += string(rune('0' + b>>k&1))
		}
	}
	return bits
}

func wire(s string) string { return onWire(bitsOf(s)) }

func texts() []string {
	list := []string{strings.Repeat("\xff", 80), strings.Repeat("\x00", 80), strings.Repeat("\x7e", 80), strings.Repeat("\xfc", 3)}
	for size := 1; size <= 80; size++ {
		list = append(list, some(size))
	}
	for b := range 256 {
		list = append(list, string([]byte{byte(b)}), string([]byte{byte(b), 0xff}), string([]byte{0xff, byte(b)}))
	}
	return list
}

func sent(t *testing.T, s, want string, code api.Errno) {
	t.Helper()
	if got, e := Send(s); got != want || e != code {
		t.Errorf("Send(%x): %q %d, not %q %d", s, got, e, want, code)
	}
}

func pieced(t *testing.T, levels, want string, code api.Errno) {
	t.Helper()
	if got, e := Piece(levels); got != want || e != code {
		t.Errorf("Piece(%q): %x %d, not %x %d", levels, got, e, want, code)
	}
}

func heardAs(t *testing.T, before, levels, after string, want ...api.Heard) {
	t.Helper()
	ear, list, e := Hear(api.Ear{Rest: before}, levels)
	if ear.Rest != after || !slices.Equal(list, want) || e != api.OK {
		t.Errorf("Hear(%q, %q): %q %v %d, not %q %v", before, levels, ear.Rest, list, e, after, want)
	}
}

func text(s string) api.Heard      { return api.Heard{Text: s} }
func wrong(e api.Errno) api.Heard  { return api.Heard{Err: e} }
func times(s string, n int) string { return strings.Repeat(s, n) }
func packetOf(s string) string     { return wire(s) + "00J" }
func turns(count int) string       { return times("KJ", count/2) + times("K", count%2) }

// P4.1

func TestSendKnown(t *testing.T) {
	sent(t, "\xd2", "KJKJKJKKJJKJJKKK00J", api.OK)
	sent(t, "\x00", "KJKJKJKKJKJKJKJK00J", api.OK)
	// The last bit of the lead is the first of six ones.
	sent(t, "\xff", "KJKJKJKKKKKKKJJJJ00J", api.OK)
	// Behind the sixth 1 a 0 is put, also where nothing follows.
	sent(t, "\xfc", "KJKJKJKKJKKKKKKKJ00J", api.OK)
}

func TestSendAll(t *testing.T) {
	for _, s := range texts() {
		sent(t, s, packetOf(s), api.OK)
	}
}

func TestSendSizes(t *testing.T) {
	sent(t, "", "", api.ErrShort)
	sent(t, some(80), packetOf(some(80)), api.OK)
	for _, size := range []int{81, 82, 100, 1000, 1 << 20} {
		sent(t, some(size), "", api.ErrLarge)
	}
}

// P4.2

func TestPieceOfSend(t *testing.T) {
	for _, s := range texts() {
		pieced(t, wire(s), s, api.OK)
	}
}

func TestPieceSigns(t *testing.T) {
	good := wire("ab")
	for b := range 256 {
		if b == 'J' || b == 'K' {
			continue
		}
		for _, at := range []int{0, 3, 8, len(good) - 1} {
			levels := []byte(good)
			levels[at] = byte(b)
			pieced(t, string(levels), "", api.ErrForm)
		}
		pieced(t, string([]byte{byte(b)}), "", api.ErrForm)
	}
	pieced(t, packetOf("ab"), "", api.ErrForm)
	// Ahead of each other error.
	pieced(t, "JJJJ0", "", api.ErrForm)
	pieced(t, times("J", 20)+"0", "", api.ErrForm)
	pieced(t, "KJKJKJKK"+times("K", 20)+"0", "", api.ErrForm)
	pieced(t, wire(some(81))+"0", "", api.ErrForm)
}

func TestPieceLead(t *testing.T) {
	lead := "KJKJKJKK"
	for at := range lead {
		pieced(t, lead[:at], "", api.ErrSync)
		levels := []byte(lead + "JKJKJKJK")
		levels[at] = 'J' + 'K' - levels[at]
		pieced(t, string(levels), "", api.ErrSync)
	}
	pieced(t, "JKJKJKJJ"+"KJKJKJKJ", "", api.ErrSync)
	// Ahead of what Unstuff says, and of the sizes.
	pieced(t, times("J", 7), "", api.ErrSync)
	pieced(t, times("J", 6), "", api.ErrSync)
	pieced(t, "KJKJKJKJ"+times("J", 9), "", api.ErrSync)
	pieced(t, "J"+wire(some(81)), "", api.ErrSync)
}

func TestPieceStuffed(t *testing.T) {
	lead := "KJKJKJKK"
	pieced(t, lead+times("K", 5), "", api.ErrShort)
	for n := 6; n < 30; n++ {
		pieced(t, lead+times("K", n), "", api.ErrStuff)
	}
	// Five bits behind the lead are no whole byte: what Unstuff says is told ahead of it.
	pieced(t, lead+"J"+times("J", 6), "", api.ErrShort)
	pieced(t, lead+"J"+times("J", 7), "", api.ErrStuff)
	// The 0 behind six ones is left out at the end of a packet, and missed.
	whole := wire("\xfc")
	pieced(t, whole, "\xfc", api.OK)
	pieced(t, whole[:len(whole)-1], "", api.ErrShort)
	// Ahead of ErrLarge.
	large := wire(some(81) + "\xfc")
	pieced(t, large[:len(large)-1], "", api.ErrShort)
	pieced(t, large[:len(large)-1]+large[len(large)-2:len(large)-1], "", api.ErrStuff)
}

func TestPieceWholeBytes(t *testing.T) {
	for size := range 90 {
		bits := bitsOf(some(size))
		for more := 1; more < 8; more++ {
			pieced(t, onWire(bits+"0101010"[:more]), "", api.ErrForm)
		}
	}
}

func TestPieceSizes(t *testing.T) {
	pieced(t, "", "", api.ErrSync)
	pieced(t, "KJKJKJKK", "", api.ErrShort)
	pieced(t, wire(some(80)), some(80), api.OK)
	pieced(t, wire(times("\xff", 80)), times("\xff", 80), api.OK)
	for _, size := range []int{81, 82, 160, 1000} {
		pieced(t, wire(some(size)), "", api.ErrLarge)
		pieced(t, wire(times("\x00", size)), "", api.ErrLarge)
	}
}

// P4.3

func TestHearKnown(t *testing.T) {
	ack := "KJKJKJKKJJKJJKKK00J"
	heardAs(t, "", "", "")
	heardAs(t, "", "JJJ", "")
	heardAs(t, "", ack, "", text("\xd2"))
	heardAs(t, "", "JJJ"+ack+"JJ"+ack[:9], ack[:9], text("\xd2"))
	heardAs(t, ack[:9], ack[9:], "", text("\xd2"))
	heardAs(t, "", ack+ack+"J"+ack, "", text("\xd2"), text("\xd2"), text("\xd2"))
	heardAs(t, "", ack+"KJK00J"+packetOf("ab"), "", text("\xd2"), wrong(api.ErrSync), text("ab"))
	heardAs(t, "", "00J", "", wrong(api.ErrSync))
	heardAs(t, "", "000J", "", wrong(api.ErrForm))
	heardAs(t, "", "J0J0J00J", "", wrong(api.ErrForm))
	heardAs(t, "", "KJKJKJKK00J", "", wrong(api.ErrShort))
	heardAs(t, "", "KJKJKJKKKKKKKKK00J", "", wrong(api.ErrStuff))
	heardAs(t, "", packetOf(some(81)), "", wrong(api.ErrLarge))
	heardAs(t, "", "K00K0J", "K00K0J")
}

// A J is passed over only where nothing is under way.
func TestHearRest(t *testing.T) {
	heardAs(t, "", "JJK", "K")
	heardAs(t, "K", "JJ", "KJJ")
	heardAs(t, "J", "J", "JJ")
	heardAs(t, "J", "", "J")
	heardAs(t, "00", "J", "", wrong(api.ErrSync))
	heardAs(t, "0", "0JJ", "", wrong(api.ErrSync))
	// A Rest is held against its end only behind a sign.
	heardAs(t, "00J", "", "00J")
	heardAs(t, "00J", "J", "00JJ")
	heardAs(t, "00J", "00J", "", wrong(api.ErrForm))
}

func TestHearCut(t *testing.T) {
	all, want := "", []api.Heard(nil)
	for i, s := range []string{"a", "\xff\xff", some(30), "\xfc", some(80)} {
		all += times("J", i) + packetOf(s) + "KK00J"
		want = append(want, text(s), wrong(api.ErrSync))
	}
	for cut := range len(all) + 1 {
		first, one, e := Hear(api.Ear{}, all[:cut])
		last, two, f := Hear(first, all[cut:])
		if e != api.OK || f != api.OK || last != (api.Ear{}) || !slices.Equal(append(one, two...), want) {
			t.Fatal(cut, last, one, two, e, f)
		}
	}
	ear, list := api.Ear{}, []api.Heard(nil)
	for i := range len(all) {
		next, some, e := Hear(ear, all[i:i+1])
		if e != api.OK || len(some) > 1 {
			t.Fatal(i, next, some, e)
		}
		ear, list = next, append(list, some...)
	}
	if ear != (api.Ear{}) || !slices.Equal(list, want) {
		t.Fatal(ear, list)
	}
}

// listened is what is heard, word by word as the chapter has it.
func listened(held, levels string) (string, []api.Heard) {
	var list []api.Heard
	for ; levels != ""; levels = levels[1:] {
		if held == "" && levels[0] == 'J' {
			continue
		}
		held += levels[:1]
		if n := len(held) - 3; n >= 0 && held[n:] == "00J" {
			s, e := Piece(held[:n])
			list, held = append(list, api.Heard{Text: s, Err: e}), ""
		} else if len(held) > 1000 {
			list, held = append(list, wrong(api.ErrLarge)), ""
		}
	}
	return held, list
}

func TestHearAllShort(t *testing.T) {
	lists := []string{""}
	for from := 0; len(lists[from]) < 7; from++ {
		for _, sign := range []string{"J", "K", "0"} {
			lists = append(lists, lists[from]+sign)
		}
	}
	for _, before := range []string{"", "J", "K", "0", "00", "K0", "K00", "00J", "KJKJKJKKJJKJJKKK", "KJKJKJKKJJKJJKKK0", times("K", 996)} {
		for _, levels := range lists {
			after, want := listened(before, levels)
			heardAs(t, before, levels, after, want...)
		}
	}
}

func TestHearHold(t *testing.T) {
	heardAs(t, "", times("K", 1000), times("K", 1000))
	heardAs(t, "", times("K", 1001), "", wrong(api.ErrLarge))
	heardAs(t, "", times("K", 2002), "", wrong(api.ErrLarge), wrong(api.ErrLarge))
	heardAs(t, "", times("K", 1001)+"JJ"+packetOf("a")+"K", "K", wrong(api.ErrLarge), text("a"))
	heardAs(t, times("K", 1000), "", times("K", 1000))
	heardAs(t, times("K", 1000), "J", "", wrong(api.ErrLarge))
	heardAs(t, times("K", 1000), "JJK", "K", wrong(api.ErrLarge))
	heardAs(t, times("K", 999), "J", times("K", 999)+"J")
	// An ending as the sign behind a thousand is an ending.
	heardAs(t, "", turns(997)+"00J", "", wrong(api.ErrSync))
	heardAs(t, "", turns(998)+"00J", "", wrong(api.ErrSync))
	heardAs(t, "", turns(999)+"00J", "", wrong(api.ErrLarge))
	heardAs(t, "", turns(999)+"000J", "0J", wrong(api.ErrLarge))
}

func TestHearLongRest(t *testing.T) {
	for _, size := range []int{1001, 1002, 5000} {
		held := times("K", size)
		heardAs(t, held, "", held)
		heardAs(t, held, "J", "", wrong(api.ErrLarge))
		heardAs(t, held, "0", "", wrong(api.ErrLarge))
		heardAs(t, held+"00", "J", "", wrong(api.ErrSync))
		heardAs(t, wire(some(size))+"00", "JK", "K", wrong(api.ErrLarge))
	}
}

func TestHearWrongSigns(t *testing.T) {
	good := packetOf("ab")
	for b := range 256 {
		if b == 'J' || b == 'K' || b == '0' {
			continue
		}
		bad := string([]byte{byte(b)})
		for _, levels := range []string{bad, good + bad, bad + good, "J" + bad + "K", good[:5] + bad + good[5:], times("K", 1001) + bad} {
			for _, c := range [][2]string{{"", levels}, {"K", levels}, {levels, ""}, {levels, good}, {levels, levels}, {levels, "J"}} {
				ear, list, e := Hear(api.Ear{Rest: c[0]}, c[1])
				if ear.Rest != c[0] || len(list) != 0 || e != api.ErrArg {
					t.Fatalf("Hear(%q, %q): %q %v %d", c[0], c[1], ear.Rest, list, e)
				}
			}
		}
	}
}

func TestHearLong(t *testing.T) {
	ear, list, e := Hear(api.Ear{}, times(packetOf(some(80)), 500))
	if ear != (api.Ear{}) || len(list) != 500 || e != api.OK {
		t.Fatal(ear, len(list), e)
	}
	for _, one := range list {
		if one != text(some(80)) {
			t.Fatal(one)
		}
	}
}

// P1, P2

func TestAnyBytes(t *testing.T) {
	for size := range 400 {
		s := some(size)
		signs := []byte(s)
		for i := range signs {
			signs[i] = "JK0J"[signs[i]&3]
		}
		Piece(s)
		Piece(string(signs))
		Hear(api.Ear{Rest: s}, s)
		after, want := listened(string(signs[:size/2]), string(signs[size/2:]))
		heardAs(t, string(signs[:size/2]), string(signs[size/2:]), after, want...)
	}
}

func TestSameAnswerAgain(t *testing.T) {
	levels := packetOf("ab") + "K00J" + packetOf("c") + "KJ"
	ear, list, _ := Hear(api.Ear{}, levels)
	again, other, _ := Hear(api.Ear{}, levels)
	room := list[:cap(list)]
	for i := range room {
		room[i] = wrong(api.ErrGone)
	}
	if ear != again || !slices.Equal(other, []api.Heard{text("ab"), wrong(api.ErrSync), text("c")}) {
		t.Fatal(ear, again, other)
	}
	Send("ab")
	heardAs(t, "", levels, "KJ", other...)
}
