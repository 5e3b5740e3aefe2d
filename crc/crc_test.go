package crc_test

import (
	"bytes"
	"fmt"
	"hash/crc32"
	"math"
	"math/bits"
	"testing"

	"flotilla/api"
	"flotilla/crc"
)

// byBits is the sum as the document says it, bit by bit, going on with a register.
func byBits(register uint32, b []byte) uint32 {
	for _, c := range b {
		for i := range 8 {
			bit := uint32(c>>i) & 1
			if register&1 != bit {
				register = register>>1 ^ 0x82F63B78
			} else {
				register >>= 1
			}
		}
	}
	return register
}

// some is n bytes that look like nothing, others for each seed.
func some(seed uint32, n int) []byte {
	b := make([]byte, n)
	for i := range b {
		seed = seed*1664525 + 1013904223
		b[i] = byte(seed >> 24)
	}
	return b
}

// rows has rows of bytes of all kinds: none, one byte each, noughts, highest bits, texts, long ones.
func rows() [][]byte {
	l := [][]byte{nil, {}, []byte("123456789"), []byte("ab"), make([]byte, 70),
		bytes.Repeat([]byte{0xff}, 33), bytes.Repeat([]byte{0x80}, 5), {0xff, 0, 0x80, 0x7f, 1}}
	for c := range 256 {
		l = append(l, []byte{byte(c)}, []byte{0, byte(c)}, []byte{byte(c), 0})
	}
	for n := range 80 {
		l = append(l, some(uint32(n), n))
	}
	return append(l, some(7, api.PageSize), some(8, api.MaxBytes))
}

// numbers has sums to go on with: such that are sums of something, the edges, each bit alone.
func numbers() []uint32 {
	l := []uint32{0, 1, math.MaxUint32, math.MaxUint32 - 1, 0x7fffffff, 0x82F63B78, 0xdeadbeef, 3808858755}
	for i := range 32 {
		l = append(l, 1<<i, ^uint32(1<<i))
	}
	return l
}

func xor(l ...[]byte) []byte {
	sum := make([]byte, len(l[0]))
	for _, b := range l {
		for i, c := range b {
			sum[i] ^= c
		}
	}
	return sum
}

// turn turns the bits of pattern from the bit at on, in the order in which the sum takes bits.
func turn(b []byte, at int, pattern uint32) []byte {
	b = bytes.Clone(b)
	for i := range 32 {
		if pattern>>i&1 == 1 {
			b[(at+i)/8] ^= 1 << ((at + i) % 8)
		}
	}
	return b
}

func wantErr(t *testing.T, what string, b []byte, want api.Errno) {
	t.Helper()
	if got, e := crc.Open(b); e != want || len(got) != 0 {
		t.Fatalf("%s: Open(%v) is %v, %d; want nothing, %d", what, b, got, e, want)
	}
}

func wantOpen(t *testing.T, what string, b, want []byte) {
	t.Helper()
	if got, e := crc.Open(b); e != api.OK || !bytes.Equal(got, want) {
		t.Fatalf("%s: Open(%v) is %v, %d; want %v", what, b, got, e, want)
	}
}

// 2.1

func TestExamples(t *testing.T) {
	cases := []struct {
		b    []byte
		want uint32
	}{
		{nil, 0},
		{[]byte{}, 0},
		{[]byte("123456789"), 3808858755},
		{make([]byte, 32), 0x8a9136aa},
		{bytes.Repeat([]byte{0xff}, 32), 0x62a8ab43},
		{[]byte("a"), 0xc1d04330},
	}
	for _, c := range cases {
		if got := crc.Sum(c.b); got != c.want {
			t.Errorf("Sum(%v): %#x, want %#x", c.b, got, c.want)
		}
	}
}

func TestSumIsTheSumBitByBit(t *testing.T) {
	table := crc32.MakeTable(crc32.Castagnoli)
	for _, b := range rows() {
		got := crc.Sum(b)
		if want := ^byBits(math.MaxUint32, b); got != want {
			t.Fatalf("Sum(%v): %#x, want %#x", b, got, want)
		}
		if want := crc32.Checksum(b, table); got != want {
			t.Fatalf("Sum(%v): %#x, want %#x (CRC-32C)", b, got, want)
		}
	}
}

func TestMoreGoesOnWithAnyNumber(t *testing.T) {
	for _, n := range numbers() {
		for _, b := range rows()[:300] {
			if got, want := crc.More(n, b), ^byBits(^n, b); got != want {
				t.Fatalf("More(%#x, %v): %#x, want %#x", n, b, got, want)
			}
		}
	}
}

func TestMoreOfNothingIsTheNumber(t *testing.T) {
	for _, n := range numbers() {
		if got := crc.More(n, nil); got != n {
			t.Errorf("More(%#x, nil): %#x", n, got)
		}
		if got := crc.More(n, []byte{}); got != n {
			t.Errorf("More(%#x, empty): %#x", n, got)
		}
	}
}

func TestMoreOfASumIsTheSumOfBoth(t *testing.T) {
	for _, a := range rows()[:60] {
		for _, b := range rows()[:60] {
			got, want := crc.More(crc.Sum(a), b), crc.Sum(append(bytes.Clone(a), b...))
			if got != want {
				t.Fatalf("More(Sum(%v), %v): %#x, want %#x", a, b, got, want)
			}
		}
	}
}

// 2.2

func TestSealPutsTheSumBehindLowestByteFirst(t *testing.T) {
	cases := []struct{ b, want []byte }{
		{nil, []byte{0, 0, 0, 0}},
		{[]byte{}, []byte{0, 0, 0, 0}},
		{[]byte("a"), []byte{'a', 0x30, 0x43, 0xd0, 0xc1}},
		{[]byte("123456789"), append([]byte("123456789"), 0x83, 0x92, 0x06, 0xe3)},
	}
	for _, c := range cases {
		if got := crc.Seal(c.b); !bytes.Equal(got, c.want) {
			t.Errorf("Seal(%v): %v, want %v", c.b, got, c.want)
		}
	}
	for _, b := range rows() {
		n := ^byBits(math.MaxUint32, b)
		want := append(bytes.Clone(b), byte(n), byte(n>>8), byte(n>>16), byte(n>>24))
		if got := crc.Seal(b); !bytes.Equal(got, want) {
			t.Fatalf("Seal(%v): %v, want %v", b, got, want)
		}
	}
}

func TestOpenIsWhatWasSealed(t *testing.T) {
	for _, b := range rows() {
		sealed := crc.Seal(b)
		wantOpen(t, "sealed", sealed, b)
		wantOpen(t, "sealed twice", crc.Seal(sealed), sealed)
	}
}

func TestOpenOfFewBytes(t *testing.T) {
	wantErr(t, "nil", nil, api.ErrEnd)
	wantErr(t, "empty", []byte{}, api.ErrEnd)
	for n := range 4 {
		for _, c := range []byte{0, 1, 0x80, 0xff} {
			wantErr(t, "too few", bytes.Repeat([]byte{c}, n), api.ErrEnd)
		}
		wantErr(t, "cut", crc.Seal([]byte("ab"))[:n], api.ErrEnd)
		wantErr(t, "room behind", make([]byte, n, 64), api.ErrEnd)
	}
	wantOpen(t, "the sum of nothing", make([]byte, 4), nil)
	for i := range 32 {
		wantErr(t, "four bytes, no sum", turn(make([]byte, 4), i, 1), api.ErrSum)
	}
	wantErr(t, "four bytes, no sum", []byte{0xff, 0xff, 0xff, 0xff}, api.ErrSum)
}

// holds tells, bit by bit, whether the last four of b are the sum of the others: so they may be by chance, or of noughts and of ones by their kind.
func holds(b []byte) bool {
	end := len(b) - 4
	n := ^byBits(math.MaxUint32, b[:end])
	return bytes.Equal(b[end:], []byte{byte(n), byte(n >> 8), byte(n >> 16), byte(n >> 24)})
}

func TestOpenOfBytesCut(t *testing.T) {
	wrong := 0
	for _, b := range rows() {
		sealed := crc.Seal(b)
		for n := range min(len(sealed), 100) {
			cut := sealed[:len(sealed)-1-n]
			switch {
			case len(cut) < 4:
				wantErr(t, "cut to too few", cut, api.ErrEnd)
			case holds(cut):
				wantOpen(t, "cut to what holds by chance", cut, cut[:len(cut)-4])
			default:
				wantErr(t, "cut at the end", cut, api.ErrSum)
				wrong++
			}
		}
	}
	if wrong < 3000 {
		t.Errorf("only %d were seen to be cut", wrong)
	}
}

func TestOpenOfBytesAdded(t *testing.T) {
	for _, b := range rows()[:60] {
		sealed := crc.Seal(b)
		for c := range 256 {
			more := append(bytes.Clone(sealed), byte(c))
			for range 6 {
				wantErr(t, "added at the end", more, api.ErrSum)
				more = append(more, byte(c))
			}
		}
	}
}

func TestOpenOfEveryWrongSum(t *testing.T) {
	b := []byte("123456789")
	sum := crc.Sum(b)
	for _, n := range append(numbers(), sum+1, sum-1, ^sum, bits.ReverseBytes32(sum), bits.Reverse32(sum)) {
		if n == sum {
			continue
		}
		wantErr(t, fmt.Sprintf("sum %#x", n), append(bytes.Clone(b), byte(n), byte(n>>8), byte(n>>16), byte(n>>24)), api.ErrSum)
	}
}

// 2.3

func TestPiecesOfEveryLength(t *testing.T) {
	b := some(3, 200)
	want := crc.Sum(b)
	for size := 1; size <= len(b)+1; size++ {
		sum := crc.Sum(nil)
		for at := 0; at < len(b); at += size {
			sum = crc.More(sum, b[at:min(at+size, len(b))])
		}
		if sum != want {
			t.Fatalf("in pieces of %d: %#x, want %#x", size, sum, want)
		}
	}
	for i := range len(b) + 1 {
		for j := i; j <= len(b); j += 7 {
			if got := crc.More(crc.More(crc.Sum(b[:i]), b[i:j]), b[j:]); got != want {
				t.Fatalf("cut at %d and %d: %#x, want %#x", i, j, got, want)
			}
		}
	}
}

func TestThreeTogether(t *testing.T) {
	for n := range 120 {
		a, b, c := some(uint32(n), n), some(uint32(n)+1000, n), some(uint32(n)+2000, n)
		if n%3 == 0 {
			b = make([]byte, n)
		}
		if n%5 == 0 {
			c = bytes.Clone(a)
		}
		got, want := crc.Sum(a)^crc.Sum(b)^crc.Sum(c), crc.Sum(xor(a, b, c))
		if got != want {
			t.Fatalf("of %d bytes each: %#x together, want %#x", n, got, want)
		}
	}
}

func TestEveryBitAndByteTurned(t *testing.T) {
	for _, b := range [][]byte{nil, {0}, {0x80}, []byte("ab"), make([]byte, 40), some(1, 129)} {
		sealed := crc.Seal(b)
		for i := range 8 * len(sealed) {
			wantErr(t, "a bit", turn(sealed, i, 1), api.ErrSum)
		}
		for i := range sealed {
			for c := 1; c < 256; c++ {
				wantErr(t, "a byte", turn(sealed, 8*i, uint32(c)), api.ErrSum)
			}
		}
	}
}

func TestUpTo32BitsSideBySideTurned(t *testing.T) {
	for _, b := range [][]byte{nil, []byte("ab"), some(2, 21)} {
		sealed := crc.Seal(b)
		for length := 1; length <= 32; length++ {
			for at := range 8*len(sealed) - length + 1 {
				for _, n := range some(uint32(length*1000+at), 8) {
					inner := uint32(n) * 0x9e3779b1 & (1<<length - 1)
					wantErr(t, "bits side by side", turn(sealed, at, inner|1|1<<(length-1)), api.ErrSum)
				}
				wantErr(t, "all of them", turn(sealed, at, 1<<length-1), api.ErrSum)
				wantErr(t, "both ends", turn(sealed, at, 1|1<<(length-1)), api.ErrSum)
			}
		}
	}
}

func TestEveryPatternOfFewBits(t *testing.T) {
	sealed := crc.Seal([]byte("flotilla"))
	const most = 11
	for pattern := uint32(1); pattern < 1<<most; pattern += 2 {
		for at := range 8*len(sealed) - most + 1 {
			wantErr(t, "a pattern", turn(sealed, at, pattern), api.ErrSum)
		}
	}
}

// Memory

// roomy is b with room behind it, all of it told by the second result.
func roomy(b []byte) ([]byte, []byte) {
	all := append(bytes.Clone(b), bytes.Repeat([]byte{0xa5}, 16)...)
	return all[:len(b)], all
}

func TestWhatIsHandedInStays(t *testing.T) {
	for _, b := range [][]byte{{}, {1}, []byte("abcd"), crc.Seal([]byte("ab")), crc.Seal(nil), some(9, 90)} {
		arg, all := roomy(b)
		was := bytes.Clone(all)
		crc.Sum(arg)
		crc.More(5, arg)
		crc.Seal(arg)
		crc.Open(arg)
		if !bytes.Equal(all, was) {
			t.Errorf("%v was changed: %v", was, all)
		}
	}
}

// fill overwrites b, and the room behind it.
func fill(b []byte) {
	b = b[:cap(b)]
	for i := range b {
		b[i] = 0xee
	}
}

func TestWhatIsToldIsNewMemory(t *testing.T) {
	for _, b := range [][]byte{{}, {1}, []byte("abcd"), some(9, 90)} {
		arg, all := roomy(b)
		was := bytes.Clone(all)
		one, two := crc.Seal(arg), crc.Seal(arg)
		want := bytes.Clone(two)
		fill(one)
		if !bytes.Equal(two, want) || !bytes.Equal(all, was) {
			t.Errorf("Seal(%v) shares memory", b)
		}

		sealed, all := roomy(want)
		was = bytes.Clone(all)
		x, _ := crc.Open(sealed)
		y, _ := crc.Open(sealed)
		fill(x)
		if !bytes.Equal(y, b) || !bytes.Equal(all, was) {
			t.Errorf("Open(%v) shares memory with its argument or another answer", sealed)
		}
		fill(all)
		if !bytes.Equal(y, b) {
			t.Errorf("Open kept %v", sealed)
		}
	}
}

func TestNothingIsKept(t *testing.T) {
	b := []byte("123456789")
	for range 3 {
		if crc.Sum(b) != 3808858755 || crc.More(crc.Sum(b[:4]), b[4:]) != 3808858755 {
			t.Fatal("a sum hangs on the calls ahead of it")
		}
		wantErr(t, "a wrong one between", append(crc.Seal(b), 1), api.ErrSum)
		wantOpen(t, "behind it", crc.Seal(b), b)
	}
}
