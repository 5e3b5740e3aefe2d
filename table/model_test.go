package table_test

import (
	"bytes"
	"math"
	"math/big"
	"slices"
	"strings"
	"testing"
	"time"

	"flotilla/api"
	"flotilla/page"
	"flotilla/table"
)

// What the document says, a second time: with the limits and kinds written out, and numbers without an end.

// sums keeps what sumOf told: a long text takes long.
var sums = map[string]*big.Int{}

// sumOf takes the chapter's words one by one.
func sumOf(key string) *big.Int {
	if sum := sums[key]; sum != nil {
		return sum
	}
	end := new(big.Int).Lsh(big.NewInt(1), 64)
	sum, _ := new(big.Int).SetString("14695981039346656037", 10)
	for _, c := range []byte(key) {
		sum.Xor(sum, big.NewInt(int64(c)))
		sum.Mul(sum, big.NewInt(1099511628211))
		sum.Mod(sum, end)
	}
	sums[key] = sum
	return sum
}

func homeOf(key string, pages int) int {
	if pages < 1 {
		return 0
	}
	return int(new(big.Int).Mod(sumOf(key), big.NewInt(int64(pages))).Int64())
}

func wantsOf(k api.StepKind, key string, pages int) []api.Want {
	one := table.Name(homeOf(key, pages))
	switch k {
	case 2:
		return []api.Want{{Name: "*", Mode: 1}, {Name: one, Mode: 3}}
	case 3, 4, 5:
		return []api.Want{{Name: "*", Mode: 2}, {Name: one, Mode: 5}}
	case 6:
		return []api.Want{{Name: "*", Mode: 3}}
	}
	return nil
}

// taken is how many of a page's bytes slots need.
func taken(slots []api.Cell) int {
	n := 16
	for _, c := range slots {
		n += 4
		if c.Used {
			n += 1 + len(c.Key) + len(c.Value)
		}
	}
	return n
}

// laid is slots with a cell more, in the first free one or in a new one.
func laid(slots []api.Cell, key, value string) []api.Cell {
	slots = slices.Clone(slots)
	at := slices.IndexFunc(slots, func(c api.Cell) bool { return !c.Used })
	if at < 0 {
		at = len(slots)
		slots = append(slots, api.Cell{})
	}
	slots[at] = api.Cell{Used: true, Key: key, Value: value}
	return slots
}

func fits(slots []api.Cell) bool { return len(slots) <= 64 && taken(slots) <= 512 }

// planOf is what a step changes on a page with these slots.
func planOf(slots []api.Cell, k api.StepKind, key, value string) (api.Act, api.Reply) {
	put, insert, remove := k == 3, k == 4, k == 5
	if !put && !insert && !remove || len(key) < 1 || len(key) > 16 || !remove && len(value) > 32 {
		return api.Act{}, api.ReplyBad
	}
	at := slices.IndexFunc(slots, func(c api.Cell) bool { return c.Used && c.Key == key })
	switch {
	case remove && at < 0:
		return api.Act{}, api.ReplyNone
	case remove:
		return api.Act{Kind: 3, Key: key, Old: slots[at].Value}, api.ReplyOK
	case insert && at >= 0:
		return api.Act{}, api.ReplyTwice
	}
	then, change := slices.Clone(slots), api.Act{Kind: 1, Key: key, New: value}
	if at >= 0 {
		then[at].Value = value
		change.Kind, change.Old = 2, slots[at].Value
	} else {
		then = laid(slots, key, value)
	}
	if !fits(then) {
		return api.Act{}, api.ReplyFull
	}
	return change, api.ReplyOK
}

// rangeOf looks for the least that isn't told yet, again and again; of equal ones the first page's is found first.
func rangeOf(pages []*page.Page, from, to string) (all []api.Pair) {
	var left []api.Pair
	for _, p := range pages {
		for _, c := range p.Cells() {
			if c.Used && strings.Compare(c.Key, from) >= 0 && strings.Compare(c.Key, to) <= 0 {
				left = append(left, api.Pair{Key: c.Key, Value: c.Value})
			}
		}
	}
	for len(left) > 0 {
		least := 0
		for i, c := range left {
			if bytes.Compare([]byte(c.Key), []byte(left[least].Key)) < 0 {
				least = i
			}
		}
		all = append(all, left[least])
		left = slices.Delete(left, least, least+1)
	}
	return all
}

// planned asks for a plan twice, holds it against the document's words, and the page against what it was.
func planned(t testing.TB, p *page.Page, k api.StepKind, key, value string) (api.Act, api.Reply) {
	t.Helper()
	was := p.Bytes()
	change, reply := planOf(p.Cells(), k, key, value)
	if p == nil {
		change, reply = api.Act{}, api.ReplyBad
	}
	for range 2 {
		if a, r := table.Plan(p, k, key, value); a != change || r != reply {
			t.Fatalf("Plan(%d, %q, %q) on %v: %v, %v, not %v, %v", k, key, value, p.Cells(), a, r, change, reply)
		}
		if !bytes.Equal(p.Bytes(), was) {
			t.Fatalf("Plan(%d, %q, %q) changed the page", k, key, value)
		}
	}
	return change, reply
}

// ranged asks for a range twice, and writes over what it was told between.
func ranged(t testing.TB, pages []*page.Page, from, to string) []api.Pair {
	t.Helper()
	want, was, pagesWere := rangeOf(pages, from, to), bytesOf(pages), slices.Clone(pages)
	for range 2 {
		got := table.Range(pages, from, to)
		if !slices.Equal(got, want) {
			t.Fatalf("Range(%q, %q): %v, not %v", from, to, got, want)
		}
		got = got[:cap(got)]
		for i := range got {
			got[i] = api.Pair{Key: "scribbled", Value: "over"}
		}
		if !slices.Equal(pages, pagesWere) || !slices.EqualFunc(bytesOf(pages), was, bytes.Equal) {
			t.Fatalf("Range(%q, %q) changed something", from, to)
		}
	}
	return want
}

func bytesOf(pages []*page.Page) (all [][]byte) {
	for _, p := range pages {
		all = append(all, p.Bytes())
	}
	return all
}

// on is a page 5 of keys and their values by turns, each in a slot of its own.
func on(t testing.TB, texts ...string) *page.Page {
	t.Helper()
	p, e := page.New(5)
	if e != api.OK {
		t.Fatal("a page:", e)
	}
	p.Stamp(77)
	for i := 0; i < len(texts); i += 2 {
		insert(t, p, texts[i], texts[i+1])
	}
	return p
}

func insert(t testing.TB, p *page.Page, key, value string) {
	t.Helper()
	if e := p.Insert(key, value); e != api.OK {
		t.Fatalf("the test itself: Insert(%q, %q): %v", key, value, e)
	}
}

func remove(t testing.TB, p *page.Page, key string) {
	t.Helper()
	if e := p.Delete(key); e != api.OK {
		t.Fatalf("the test itself: Delete(%q): %v", key, e)
	}
}

// narrow is a page of some keys and values by turns, on which so many bytes are free, and, if it is told so, a slot.
func narrow(t testing.TB, free int, slot bool, texts ...string) *page.Page {
	t.Helper()
	p := on(t)
	if slot {
		insert(t, p, "gone", "")
	}
	for i := 0; i < len(texts); i += 2 {
		insert(t, p, texts[i], texts[i+1])
	}
	for i := 0; p.Free() > free; i++ { // slot and cell, with a key of two bytes: 7 bytes, and the value's, which can grow by 5
		need := p.Free() - free
		size := min(need, 7+27)
		if rest := need - size; rest > 0 && rest < 7 {
			size -= 7
		}
		insert(t, p, "~"+string(rune('A'+i)), text(size-7))
	}
	if slot {
		remove(t, p, "gone")
		v, _ := p.Get("~A")
		if e := p.Update("~A", v+text(len("gone")+1)); e != api.OK {
			t.Fatal("the test itself:", e)
		}
	}
	if p.Free() != free || slices.Contains(p.Cells(), api.Cell{}) != slot {
		t.Fatalf("the test itself: %d bytes are free, of %v", p.Free(), p.Cells())
	}
	return p
}

// crowd is a page with all 64 slots, and room for more cells.
func crowd(t testing.TB) *page.Page {
	t.Helper()
	p := on(t)
	for i := range 64 {
		insert(t, p, string(rune('0'+i)), "")
	}
	if len(p.Cells()) != 64 || p.Free() < 100 {
		t.Fatalf("the test itself: %d slots, %d bytes", len(p.Cells()), p.Free())
	}
	return p
}

func ins(key, value string) api.Act {
	return api.Act{Kind: api.ActInsert, Key: key, New: value}
}

func upd(key, old, value string) api.Act {
	return api.Act{Kind: api.ActUpdate, Key: key, Old: old, New: value}
}

func del(key, old string) api.Act {
	return api.Act{Kind: api.ActDelete, Key: key, Old: old}
}

func text(n int) string { return strings.Repeat("t", n) }

// ints are numbers at which something might go wrong.
func ints() []int {
	return []int{math.MinInt, math.MinInt + 1, math.MinInt32 - 1, math.MinInt32, -1 << 16, -257, -256, -17, -16, -15, -10, -2, -1, 0, 1, 2, 3, 4, 5, 7, 8, 9, 10, 11, 14, 15, 16, 17, 31, 32, 99, 100, 255, 256, 257,
		1 << 16, 1<<16 + 3, math.MaxInt32, math.MaxInt32 + 1, 1 << 32, 1<<32 + 1, 1<<32 + 3, 1 << 62, math.MaxInt - 1, math.MaxInt}
}

// steps are all kinds there are, and numbers that are none, some of which are one in their lowest bytes.
func steps() []api.StepKind {
	l := []api.StepKind{math.MinInt, math.MinInt32, -1 << 32}
	for k := api.StepKind(-4); k <= 24; k++ {
		l = append(l, k, 1<<8+k, 1<<16+k, 1<<32+k)
	}
	return append(l, math.MaxInt32, math.MaxInt)
}

// texts are keys and values at which something might go wrong; not all of them may be.
func texts() []string {
	return []string{"", "a", "b", "aa", "ab", "b\x00", "\x00", "\x00\x00", "\x7f", "\x80", "\xff", "\xff\xff", "é", "日本", "a\xc3", "*", "p1", "~A",
		text(15), text(16), text(17), text(31), text(32), text(33), "x" + text(31), text(255), text(256), text(1 << 16)}
}

// ends asks that something comes to its end, without a panic.
func ends(t *testing.T, what string, do func()) {
	t.Helper()
	over := make(chan any, 1)
	go func() {
		defer func() { over <- recover() }()
		do()
	}()
	select {
	case p := <-over:
		if p != nil {
			t.Fatalf("%s: a panic: %v", what, p)
		}
	case <-time.After(5 * time.Minute):
		t.Fatalf("%s: no end", what)
	}
}
