package page_test

import (
	"fmt"
	"slices"
	"testing"

	"flotilla/api"
	"flotilla/page"
)

// 6.1 of bytes whose sum is right: each case breaks one rule alone, as far as that can be

// slot is a slot's two numbers.
type slot struct{ begin, size int }

// built is bytes of page 3 with slots and texts at places, whatever they mean; sealed.
func built(slots []slot, texts map[int]string) []byte {
	b := head(7, 3, len(slots))
	for _, s := range slots {
		b = low.AppendUint16(b, uint16(s.begin))
		b = low.AppendUint16(b, uint16(s.size))
	}
	b = append(b, make([]byte, 512-len(b))...)
	for at, s := range texts {
		copy(b[at:], s)
	}
	return sealed(b)
}

func noForm(t *testing.T, what string, slots []slot, texts map[int]string) {
	t.Helper()
	wantNoPage(t, what, 3, built(slots, texts), api.ErrForm)
}

func isPage(t *testing.T, what string, slots []slot, texts map[int]string, cells ...api.Cell) {
	t.Helper()
	p, e := page.Parse(3, built(slots, texts))
	if e != api.OK || !slices.Equal(p.Cells(), cells) {
		t.Fatalf("%s: %d, %v", what, e, p.Cells())
	}
}

func TestBuiltIsAPage(t *testing.T) {
	isPage(t, "one", []slot{{509, 3}}, map[int]string{509: "\x01ax"}, api.Cell{Used: true, Key: "a", Value: "x"})
	isPage(t, "two", []slot{{509, 3}, {0, 0}, {507, 2}}, map[int]string{507: "\x01b\x01ax"},
		api.Cell{Used: true, Key: "a", Value: "x"}, api.Cell{}, api.Cell{Used: true, Key: "b"})
	isPage(t, "none", nil, nil)
}

func TestParseOfTooManySlots(t *testing.T) {
	many := func(n int) ([]slot, map[int]string) {
		var slots []slot
		cells := ""
		for i := range n {
			cells = "\x01" + string([]byte{byte(i)}) + cells
			slots = append(slots, slot{512 - len(cells), 2})
		}
		return slots, map[int]string{512 - len(cells): cells}
	}
	slots, texts := many(64)
	if p, e := page.Parse(3, built(slots, texts)); e != api.OK || len(p.Cells()) != 64 {
		t.Error("64 slots:", e)
	}
	for n := 65; n <= 82; n++ { // 83 of them don't fit in 512 bytes
		slots, texts = many(n)
		noForm(t, fmt.Sprint(n, " slots"), slots, texts)
	}
	for _, n := range []int{65, 66, 123, 124, 125, 128, 255, 256, 257, 320, 1 << 14, 1 << 15, 1<<16 - 1} {
		b := built(nil, nil)
		low.PutUint16(b[14:], uint16(n))
		wantNoPage(t, fmt.Sprint(n, " slots that aren't there"), 3, sealed(b), api.ErrForm)
	}
}

func TestParseOfALastSlotThatIsFree(t *testing.T) {
	a := map[int]string{509: "\x01ax"}
	noForm(t, "one slot, free", []slot{{0, 0}}, nil)
	noForm(t, "two slots, free", []slot{{0, 0}, {0, 0}}, nil)
	noForm(t, "64 slots, free", make([]slot, 64), nil)
	noForm(t, "the last of two", []slot{{509, 3}, {0, 0}}, a)
	noForm(t, "the last of three", []slot{{0, 0}, {509, 3}, {0, 0}}, a)
	noForm(t, "the last of 64", append([]slot{{509, 3}}, make([]slot, 63)...), a)
	isPage(t, "the last of 64 isn't", append(make([]slot, 63), slot{509, 3}), a,
		append(make([]api.Cell, 63), api.Cell{Used: true, Key: "a", Value: "x"})...)
}

func TestParseOfSlotsThatAreHalfFree(t *testing.T) {
	a := map[int]string{509: "\x01ax"}
	for _, half := range []slot{{0, 1}, {0, 3}, {0, 509}, {0, 512}, {0, 256}, {509, 0}, {512, 0}, {1, 0}, {256, 0}, {16, 0}, {20, 0}} {
		noForm(t, fmt.Sprint("alone ", half), []slot{half}, nil)
		noForm(t, fmt.Sprint("first ", half), []slot{half, {509, 3}}, a)
		noForm(t, fmt.Sprint("behind ", half), []slot{{509, 3}, half}, a)
		noForm(t, fmt.Sprint("in the midst ", half), []slot{{509, 3}, half, {507, 2}}, map[int]string{507: "\x01b\x01ax"})
	}
}

func TestParseOfCellsElsewhere(t *testing.T) {
	noForm(t, "one byte ahead of the end", []slot{{508, 3}}, map[int]string{508: "\x01ax"})
	noForm(t, "behind the slots", []slot{{20, 3}}, map[int]string{20: "\x01ax"})
	noForm(t, "one byte past the end", []slot{{510, 3}}, map[int]string{510: "\x01a"})
	noForm(t, "past the end", []slot{{512, 3}}, nil)
	noForm(t, "far past the end", []slot{{65535, 65535}}, nil)
	noForm(t, "to the end by all bytes", []slot{{65533, 3}}, map[int]string{509: "\x01ax"})
	noForm(t, "a byte between two", []slot{{509, 3}, {505, 3}}, map[int]string{505: "\x01by\x00\x01ax"})
	noForm(t, "two in the other order", []slot{{506, 3}, {509, 3}}, map[int]string{506: "\x01by\x01ax"})
	noForm(t, "the second at the end", []slot{{509, 3}, {509, 3}}, map[int]string{509: "\x01ax"})
	noForm(t, "the second within the first", []slot{{507, 5}, {509, 3}}, map[int]string{507: "\x01b\x01ax"})
	noForm(t, "one over the other", []slot{{507, 5}, {506, 3}}, map[int]string{506: "\x01\x01bxyz"})
	noForm(t, "longer than it is", []slot{{509, 4}}, map[int]string{509: "\x01ax"})
	noForm(t, "shorter than it is", []slot{{509, 2}}, map[int]string{509: "\x01ax"})
	noForm(t, "a slot's numbers exchanged", []slot{{3, 509}}, map[int]string{509: "\x01ax"})
	for at := range 509 {
		noForm(t, fmt.Sprint("at ", at), []slot{{at, 3}}, map[int]string{509: "\x01ax"})
	}
}

func TestParseOfCellsThatAreNone(t *testing.T) {
	cell := func(what, s string) {
		t.Helper()
		noForm(t, what, []slot{{512 - len(s), len(s)}}, map[int]string{512 - len(s): s})
		noForm(t, what+", behind another one", []slot{{510, 2}, {510 - len(s), len(s)}}, map[int]string{510 - len(s): s + "\x01a"})
	}
	cell("no bytes", "")
	cell("no key, no value", "\x00")
	cell("no key", "\x00xyz")
	cell("no key, a value of 32", "\x00"+text(32))
	cell("a key of 17", "\x11"+text(17))
	cell("a key of 17, and a value", "\x11"+text(17)+"x")
	cell("a key of 32", "\x20"+text(32))
	cell("a key of 255", "\xff"+text(255))
	cell("a key longer than its cell", "\x02a")
	cell("a key of 16 longer than its cell", "\x10"+text(15))
	cell("a key far longer than its cell", "\xff"+text(16))
	cell("a key's length alone", "\x01")
	cell("a value of 33", "\x01k"+text(33))
	cell("a value of 33, a key of 16", "\x10"+text(16)+text(33))
	cell("a value of 256", "\x01k"+text(256))
	cell("a value of 400", "\x01k"+text(400))
	isPage(t, "all as long as may be", []slot{{463, 49}}, map[int]string{463: "\x10" + text(16) + text(32)},
		api.Cell{Used: true, Key: text(16), Value: text(32)})
}

func TestParseOfAKeyTwice(t *testing.T) {
	noForm(t, "with one value", []slot{{509, 3}, {506, 3}}, map[int]string{506: "\x01ax\x01ax"})
	noForm(t, "with two values", []slot{{509, 3}, {507, 2}}, map[int]string{507: "\x01a\x01ax"})
	noForm(t, "with others between", []slot{{509, 3}, {0, 0}, {507, 2}, {0, 0}, {504, 3}}, map[int]string{504: "\x01ay\x01b\x01ax"})
	long := "\x10" + text(16)
	noForm(t, "of 16 bytes", []slot{{495, 17}, {478, 17}}, map[int]string{478: long + long})
	isPage(t, "one the other's beginning", []slot{{509, 3}, {506, 3}}, map[int]string{506: "\x02ax\x01ax"},
		api.Cell{Used: true, Key: "a", Value: "x"}, api.Cell{Used: true, Key: "ax"})
}

func TestParseOfBytesBetweenThatArentNoughts(t *testing.T) {
	for _, c := range []string{"\x01", "\x80", "\xff"} {
		for at := 16; at < 512; at++ {
			noForm(t, fmt.Sprint("no slots, byte ", at), nil, map[int]string{at: c})
		}
		for at := 20; at < 509; at++ {
			noForm(t, fmt.Sprint("one slot, byte ", at), []slot{{509, 3}}, map[int]string{509: "\x01ax", at: c})
		}
	}
	noForm(t, "a cell without a slot", nil, map[int]string{509: "\x01ax"})
	noForm(t, "a cell behind all others, without a slot", []slot{{509, 3}}, map[int]string{506: "\x01by\x01ax"})
	noForm(t, "what was deleted", []slot{{0, 0}, {507, 2}}, map[int]string{507: "\x01b\x01ax"})
}

// overlapping is slots whose last one stands in its own cell's first bytes: but for this it were a page. The first eight have so many bytes as are needed for that, and those between are free.
func overlapping(count, over int) ([]slot, map[int]string) {
	begin := 16 + 4*count - over
	size := 34
	slots, end := make([]slot, count), 512
	texts := map[int]string{}
	for i, n := range spread(512-begin-size, 8) {
		end -= n
		slots[i] = slot{end, n}
		texts[end] = "\x01" + string([]byte{byte('a' + i)}) + text(n-2)
	}
	slots[count-1] = slot{begin, size}
	texts[begin+over] = text(size - over)
	return slots, texts
}

// spread is n as a sum of so many numbers, none much greater than another.
func spread(n, parts int) []int {
	var l []int
	for ; parts > 0; parts-- {
		l = append(l, n/parts)
		n -= n / parts
	}
	return l
}

func TestParseOfSlotsAndCellsThatOverlap(t *testing.T) {
	for over, count := range map[int]int{3: 61, 4: 62} {
		slots, texts := overlapping(count, over)
		b := built(slots, texts)
		last := slots[count-1]
		if key := int(b[last.begin]); key < 1 || key > 16 || last.size-1-key > 32 {
			t.Fatal("its cell is none, so that this tells nothing:", b[last.begin:last.begin+last.size])
		}
		noForm(t, fmt.Sprint("by ", over), slots, texts)
	}
	// The same with the cell just behind the slots: there is no free byte, and it is a page.
	slots, texts := overlapping(61, 0)
	for at, s := range texts {
		if at == slots[60].begin {
			texts[at] = "\x02" + s[1:]
		}
	}
	if p, e := page.Parse(3, built(slots, texts)); e != api.OK || p.Free() != 0 {
		t.Error("no free byte:", e, p.Free())
	}
}
