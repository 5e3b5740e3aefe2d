package table_test

import (
	"math/rand"
	"slices"
	"testing"

	"flotilla/api"
	"flotilla/page"
	"flotilla/table"
)

// 16.3

// has asks for a range, and for just these keys and values by turns.
func has(t testing.TB, pages []*page.Page, from, to string, texts ...string) {
	t.Helper()
	var want []api.Pair
	for i := 0; i < len(texts); i += 2 {
		want = append(want, api.Pair{Key: texts[i], Value: texts[i+1]})
	}
	if got := ranged(t, pages, from, to); !slices.Equal(got, want) {
		t.Fatalf("Range(%q, %q): %v, not %v", from, to, got, want)
	}
}

const top = "\xff\xff\xff\xff\xff\xff\xff\xff\xff\xff\xff\xff\xff\xff\xff\xff" // above all other keys

func TestRangeOfNoPages(t *testing.T) {
	for _, pages := range [][]*page.Page{nil, {}, {nil}, {nil, nil, nil}, {on(t)}, {nil, on(t), nil}} {
		has(t, pages, "", top)
		has(t, pages, "a", "a")
		if got := table.Range(pages, "", top); len(got) != 0 {
			t.Error(got)
		}
	}
}

func TestRangeOfOnePage(t *testing.T) {
	pages := []*page.Page{on(t, "c", "3", "a", "1", "d", "", "b", "2")}
	has(t, pages, "a", "d", "a", "1", "b", "2", "c", "3", "d", "")
	has(t, pages, "a", "c", "a", "1", "b", "2", "c", "3")
	has(t, pages, "b", "c", "b", "2", "c", "3") // both in
	has(t, pages, "b", "b", "b", "2")
	has(t, pages, "b", "b\x00", "b", "2")
	has(t, pages, "a\x00", "b", "b", "2")
	has(t, pages, "aa", "bz", "b", "2")
	has(t, pages, "bb", "bz")
	has(t, pages, "c", "b")
	has(t, pages, "d", "a")
	has(t, pages, "d\x00", top)
	has(t, pages, "", "\x60")
	has(t, pages, "", "a", "a", "1")
	has(t, pages, "d", top, "d", "")
}

// The empty text is below all keys: from it on there are all, up to it there is none.
func TestRangeOfTheEmptyText(t *testing.T) {
	pages := []*page.Page{on(t, "\x00", "least", "a", "x")}
	has(t, pages, "", "")
	has(t, pages, "a", "")
	has(t, pages, "\x00", "")
	has(t, pages, "", "\x00", "\x00", "least")
	has(t, pages, "", top, "\x00", "least", "a", "x")
}

// Free slots have no key, which could be told as the empty one.
func TestRangeBesideFreeSlots(t *testing.T) {
	p := on(t, "a", "1", "b", "2", "c", "3")
	remove(t, p, "a")
	has(t, []*page.Page{p}, "", top, "b", "2", "c", "3")
	has(t, []*page.Page{p}, "", "")
}

// Keys rise by their bytes, as numbers without a sign, a beginning ahead of what is longer; not by runes, and not by how long they are.
func TestRangeRisesByteByByte(t *testing.T) {
	pages := []*page.Page{
		on(t, "\xff", "8", "a", "3", "\x80", "6", "\x00", "1"),
		on(t, "é", "7", "aa", "4", "\x00\x00", "2", "b", "5", text(16), "5a", top, "9"),
	}
	has(t, pages, "", top, "\x00", "1", "\x00\x00", "2", "a", "3", "aa", "4", "b", "5", text(16), "5a", "\x80", "6", "é", "7", "\xff", "8", top, "9")
	has(t, pages, "\x7f", "\xc3", "\x80", "6")
	has(t, pages, "\x7f", "\xc3\xa9", "\x80", "6", "é", "7")
	has(t, pages, "B", "Z")
}

// From and to may be texts that no page can have.
func TestRangeOfLongTexts(t *testing.T) {
	pages := []*page.Page{on(t, "a", "1", text(16), "2", "u", "3")}
	has(t, pages, text(17), text(1<<16))
	has(t, pages, text(15), text(17), text(16), "2")
	has(t, pages, "", text(1<<16), "a", "1", text(16), "2")
	has(t, pages, text(1<<16), top, "u", "3")
}

// One key on several pages is told once for each, in their order, wherever else they have keys.
func TestRangeOfOneKeyOnSeveralPages(t *testing.T) {
	x, y, z := on(t, "b", "x", "a", "0"), on(t, "b", "y"), on(t, "c", "9", "b", "z", "a", "1")
	has(t, []*page.Page{x, y, z}, "b", "b", "b", "x", "b", "y", "b", "z")
	has(t, []*page.Page{z, nil, x, y}, "b", "b", "b", "z", "b", "x", "b", "y")
	has(t, []*page.Page{y, x, z}, "", top, "a", "0", "a", "1", "b", "y", "b", "x", "b", "z", "c", "9")
	has(t, []*page.Page{z, x}, "", top, "a", "1", "a", "0", "b", "z", "b", "x", "c", "9")
	has(t, []*page.Page{y, y}, "", top, "b", "y", "b", "y")
	has(t, []*page.Page{z, y, z}, "b", top, "b", "z", "b", "y", "b", "z", "c", "9", "c", "9")
}

// Many pages with the same keys: a sort that isn't stable would not keep their order.
func TestRangeOfManyPagesWithTheSameKeys(t *testing.T) {
	var pages []*page.Page
	var want []api.Pair
	for i := range 300 {
		value := string([]byte{byte(i), byte(i >> 8)})
		pages = append(pages, on(t, "b", value, "a", value))
	}
	for _, key := range []string{"a", "b"} {
		for i := range 300 {
			want = append(want, api.Pair{Key: key, Value: string([]byte{byte(i), byte(i >> 8)})})
		}
	}
	if got := ranged(t, pages, "a", "b"); !slices.Equal(got, want) {
		t.Error("not in the order of the pages:", got)
	}
}

// Pages with any id and LSN, also the same: those are not asked for.
func TestRangeOfAnyIds(t *testing.T) {
	var pages []*page.Page
	for _, id := range []int{15, 0, 7} {
		p, e := page.New(id)
		if e != api.OK {
			t.Fatal(e)
		}
		p.Stamp(api.Lsn(id) << 32)
		insert(t, p, "a", string(rune('A'+id)))
		pages = append(pages, p)
	}
	has(t, pages, "a", "a", "a", "P", "a", "A", "a", "H")
}

// What was told stays as it is, when a page changes.
func TestRangeIsTheCallersOwn(t *testing.T) {
	p := on(t, "a", "1", "b", "2")
	first, second := table.Range([]*page.Page{p}, "", top), table.Range([]*page.Page{p}, "", top)
	if p.Update("a", "3") != api.OK || p.Delete("b") != api.OK {
		t.Fatal("the test itself")
	}
	second[1].Key = "z"
	if want := []api.Pair{{Key: "a", Value: "1"}, {Key: "b", Value: "2"}}; !slices.Equal(first, want) {
		t.Error(first)
	}
	has(t, []*page.Page{p}, "", top, "a", "3")
}

func TestRangesOfRandomPages(t *testing.T) {
	for seed := range 200 {
		from := rand.New(rand.NewSource(int64(seed)))
		all := texts()
		var pages []*page.Page
		for range from.Intn(6) {
			if from.Intn(5) == 0 {
				pages = append(pages, nil)
				continue
			}
			p := on(t)
			for range from.Intn(30) {
				key, value := all[from.Intn(len(all))], all[from.Intn(len(all))]
				if from.Intn(4) == 0 {
					p.Delete(key)
				} else {
					p.Insert(key, value)
				}
			}
			pages = append(pages, p)
		}
		for range 50 {
			ranged(t, pages, all[from.Intn(len(all))], all[from.Intn(len(all))])
		}
	}
}
