package table_test

import (
	"strings"
	"testing"

	"flotilla/api"
	"flotilla/page"
	"flotilla/table"
)

// 16.2

// wants asks for a plan, and for just this one.
func wants(t testing.TB, p *page.Page, k api.StepKind, key, value string, change api.Act, reply api.Reply) {
	t.Helper()
	if a, r := planned(t, p, k, key, value); a != change || r != reply {
		t.Fatalf("Plan(%d, %q, %q) on %v: %v, %v, not %v, %v", k, key, value, p.Cells(), a, r, change, reply)
	}
}

// refuses asks for a plan, and to be told why there is none.
func refuses(t testing.TB, p *page.Page, k api.StepKind, key, value string, reply api.Reply) {
	t.Helper()
	wants(t, p, k, key, value, api.Act{}, reply)
}

func TestPlanOfEachStep(t *testing.T) {
	p := on(t, "a", "x", "aa", "", "b", text(32))
	for _, c := range []struct {
		k          api.StepKind
		key, value string
		change     api.Act
		reply      api.Reply
	}{
		{api.StepPut, "c", "y", ins("c", "y"), api.ReplyOK},
		{api.StepPut, "c", "", ins("c", ""), api.ReplyOK},
		{api.StepPut, text(16), text(32), ins(text(16), text(32)), api.ReplyOK},
		{api.StepPut, "\x00", "\xff\x00", ins("\x00", "\xff\x00"), api.ReplyOK},
		{api.StepPut, "a", "y", upd("a", "x", "y"), api.ReplyOK},
		{api.StepPut, "a", "x", upd("a", "x", "x"), api.ReplyOK},
		{api.StepPut, "a", "", upd("a", "x", ""), api.ReplyOK},
		{api.StepPut, "aa", "y", upd("aa", "", "y"), api.ReplyOK},
		{api.StepPut, "aa", "", upd("aa", "", ""), api.ReplyOK},
		{api.StepPut, "b", text(31), upd("b", text(32), text(31)), api.ReplyOK},
		{api.StepInsert, "c", "y", ins("c", "y"), api.ReplyOK},
		{api.StepInsert, "c", "", ins("c", ""), api.ReplyOK},
		{api.StepInsert, text(16), text(32), ins(text(16), text(32)), api.ReplyOK},
		{api.StepInsert, "a", "y", api.Act{}, api.ReplyTwice},
		{api.StepInsert, "a", "x", api.Act{}, api.ReplyTwice},
		{api.StepInsert, "aa", "", api.Act{}, api.ReplyTwice},
		{api.StepDelete, "a", "", del("a", "x"), api.ReplyOK},
		{api.StepDelete, "a", "x", del("a", "x"), api.ReplyOK},
		{api.StepDelete, "a", "y", del("a", "x"), api.ReplyOK},
		{api.StepDelete, "aa", "y", del("aa", ""), api.ReplyOK},
		{api.StepDelete, "b", "", del("b", text(32)), api.ReplyOK},
		{api.StepDelete, "c", "", api.Act{}, api.ReplyNone},
		{api.StepDelete, "ab", "x", api.Act{}, api.ReplyNone},
	} {
		wants(t, p, c.k, c.key, c.value, c.change, c.reply)
	}
}

// A nil page is told ahead of all else.
func TestPlanOfNilPage(t *testing.T) {
	for _, k := range steps() {
		for _, key := range texts() {
			if a, r := table.Plan(nil, k, key, "x"); a != (api.Act{}) || r != api.ReplyBad {
				t.Fatalf("Plan(nil, %d, %.40q): %v, %v", k, key, a, r)
			}
		}
	}
}

// Kinds that change no page are bad, on pages where others would be told otherwise.
func TestPlanOfOtherKinds(t *testing.T) {
	bad := 0
	for _, p := range []*page.Page{on(t), on(t, "a", "x"), crowd(t), narrow(t, 0, false, "a", "x")} {
		for _, k := range steps() {
			if k == api.StepPut || k == api.StepInsert || k == api.StepDelete {
				continue
			}
			for _, key := range []string{"a", "b", ""} {
				refuses(t, p, k, key, "x", api.ReplyBad)
				bad++
			}
		}
	}
	if bad < 1000 {
		t.Error("only", bad)
	}
}

// What a page can't have is bad, whatever the page would tell otherwise; bytes count, not runes.
func TestPlanOfWhatNoPageCanHave(t *testing.T) {
	for _, p := range []*page.Page{on(t), on(t, "a", "x"), crowd(t), narrow(t, 0, false, "a", "x"), narrow(t, 0, true, "a", "x")} {
		for _, key := range []string{"", text(17), text(18), text(256), text(257), text(1 << 16), strings.Repeat("é", 9)} {
			for _, value := range []string{"", "x", text(32), text(33)} {
				for _, k := range []api.StepKind{api.StepPut, api.StepInsert, api.StepDelete} {
					refuses(t, p, k, key, value, api.ReplyBad)
				}
			}
		}
		for _, key := range []string{"a", "b", "0", text(16)} {
			for _, value := range []string{text(33), text(34), text(256), text(257), text(1 << 16), strings.Repeat("é", 17)} {
				refuses(t, p, api.StepPut, key, value, api.ReplyBad)
				refuses(t, p, api.StepInsert, key, value, api.ReplyBad)
			}
		}
	}
}

// Of a Delete the value isn't asked for: neither whether a page can have it, nor whether the key has it.
func TestPlanOfDeleteWithAnyValue(t *testing.T) {
	p := on(t, "a", "x", text(16), text(32))
	for _, value := range texts() {
		wants(t, p, api.StepDelete, "a", value, del("a", "x"), api.ReplyOK)
		wants(t, p, api.StepDelete, text(16), value, del(text(16), text(32)), api.ReplyOK)
		refuses(t, p, api.StepDelete, "b", value, api.ReplyNone)
		refuses(t, p, api.StepDelete, "", value, api.ReplyBad)
	}
}

// A new cell needs four bytes for a slot, if none is free.
func TestPlanAtTheRoomForAnInsert(t *testing.T) {
	for _, k := range []api.StepKind{api.StepPut, api.StepInsert} {
		for _, c := range []struct{ key, value string }{{"k", ""}, {"k", "v"}, {text(16), ""}, {"k", text(32)}, {text(16), text(32)}} {
			cell := 1 + len(c.key) + len(c.value)
			for more := range 12 {
				for less := range min(12, cell) {
					wants(t, narrow(t, cell+4+more, false), k, c.key, c.value, ins(c.key, c.value), api.ReplyOK)
					wants(t, narrow(t, cell+more, true), k, c.key, c.value, ins(c.key, c.value), api.ReplyOK)
					refuses(t, narrow(t, cell+3-less, false), k, c.key, c.value, api.ReplyFull)
					refuses(t, narrow(t, cell-1-less, true), k, c.key, c.value, api.ReplyFull)
				}
			}
		}
	}
}

// A key that is there needs room for what its value grows by, and no slot.
func TestPlanAtTheRoomForAnUpdate(t *testing.T) {
	for _, old := range []string{"", "x", text(16), text(31), text(32)} {
		for length := range 33 {
			value := strings.Repeat("n", length)
			for free := range 36 {
				for _, slot := range []bool{false, true} {
					p := narrow(t, free, slot, "k", old)
					if grown := length - len(old); grown > free {
						refuses(t, p, api.StepPut, "k", value, api.ReplyFull)
					} else {
						wants(t, p, api.StepPut, "k", value, upd("k", old, value), api.ReplyOK)
					}
					refuses(t, p, api.StepInsert, "k", value, api.ReplyTwice) // though there is no room either
				}
			}
		}
	}
}

// A page of all 64 slots has no room for a new one, however many bytes are free.
func TestPlanWithoutASlot(t *testing.T) {
	p := crowd(t)
	refuses(t, p, api.StepPut, "zz", "", api.ReplyFull)
	refuses(t, p, api.StepInsert, "zz", "", api.ReplyFull)
	refuses(t, p, api.StepInsert, "0", "", api.ReplyTwice)
	refuses(t, p, api.StepDelete, "zz", "", api.ReplyNone)
	wants(t, p, api.StepPut, "0", text(32), upd("0", "", text(32)), api.ReplyOK)
	wants(t, p, api.StepDelete, "0", "", del("0", ""), api.ReplyOK)

	remove(t, p, "7") // a slot in the midst
	wants(t, p, api.StepPut, "zz", text(32), ins("zz", text(32)), api.ReplyOK)
	wants(t, p, api.StepInsert, "zz", "", ins("zz", ""), api.ReplyOK)
	insert(t, p, "yy", "")
	refuses(t, p, api.StepInsert, "zz", "", api.ReplyFull)
	remove(t, p, string(rune('0'+63))) // the last one
	wants(t, p, api.StepInsert, "zz", "", ins("zz", ""), api.ReplyOK)
}

// A full page can still be asked to delete, and to put what isn't longer.
func TestPlanOnAFullPage(t *testing.T) {
	for _, slot := range []bool{false, true} {
		p := narrow(t, 0, slot, "a", "xy", "b", "")
		refuses(t, p, api.StepPut, "c", "", api.ReplyFull)
		refuses(t, p, api.StepInsert, "c", "", api.ReplyFull)
		refuses(t, p, api.StepPut, "a", "xyz", api.ReplyFull)
		refuses(t, p, api.StepPut, "b", "x", api.ReplyFull)
		refuses(t, p, api.StepInsert, "a", "xyz", api.ReplyTwice)
		refuses(t, p, api.StepDelete, "c", "", api.ReplyNone)
		wants(t, p, api.StepPut, "a", "xy", upd("a", "xy", "xy"), api.ReplyOK)
		wants(t, p, api.StepPut, "a", "zz", upd("a", "xy", "zz"), api.ReplyOK)
		wants(t, p, api.StepPut, "a", "", upd("a", "xy", ""), api.ReplyOK)
		wants(t, p, api.StepDelete, "a", text(33), del("a", "xy"), api.ReplyOK)
	}
}

// The page is asked as it is now: a plan hangs on nothing that was planned.
func TestPlanOfAPageAsItIs(t *testing.T) {
	p := on(t)
	wants(t, p, api.StepInsert, "a", "x", ins("a", "x"), api.ReplyOK)
	wants(t, p, api.StepInsert, "a", "x", ins("a", "x"), api.ReplyOK)
	refuses(t, p, api.StepDelete, "a", "", api.ReplyNone)
	insert(t, p, "a", "x")
	refuses(t, p, api.StepInsert, "a", "x", api.ReplyTwice)
	wants(t, p, api.StepPut, "a", "y", upd("a", "x", "y"), api.ReplyOK)
	remove(t, p, "a")
	wants(t, p, api.StepPut, "a", "y", ins("a", "y"), api.ReplyOK)
}

// A key isn't asked whether it is at home on the page.
func TestPlanOfAKeyFromElsewhere(t *testing.T) {
	for _, key := range []string{"a", "b", "c", "d", "e"} {
		wants(t, on(t), api.StepPut, key, "x", ins(key, "x"), api.ReplyOK)
	}
}

func TestGet(t *testing.T) {
	p := on(t, "a", "x", "aa", "", "\x00", "\xff\x00", text(16), text(32))
	for _, c := range []struct {
		key, value string
		reply      api.Reply
	}{
		{"a", "x", api.ReplyValue}, {"aa", "", api.ReplyValue}, {"\x00", "\xff\x00", api.ReplyValue}, {text(16), text(32), api.ReplyValue},
		{"b", "", api.ReplyNone}, {"", "", api.ReplyNone}, {"aaa", "", api.ReplyNone}, {"\x00\x00", "", api.ReplyNone}, {"A", "", api.ReplyNone},
		{text(15), "", api.ReplyNone}, {text(17), "", api.ReplyNone}, {text(1 << 16), "", api.ReplyNone},
	} {
		was := string(p.Bytes())
		if v, r := table.Get(p, c.key); v != c.value || r != c.reply || string(p.Bytes()) != was {
			t.Errorf("Get(%.40q): %q, %v", c.key, v, r)
		}
	}
}

func TestGetOfNilPage(t *testing.T) {
	for _, key := range texts() {
		if v, r := table.Get(nil, key); v != "" || r != api.ReplyBad {
			t.Errorf("Get(nil, %.40q): %q, %v", key, v, r)
		}
	}
}

func TestGetOfEmptyPage(t *testing.T) {
	for _, key := range texts() {
		if v, r := table.Get(on(t), key); v != "" || r != api.ReplyNone {
			t.Errorf("Get(%.40q): %q, %v", key, v, r)
		}
	}
}

// A free slot has no key, the empty one neither.
func TestGetBesideAFreeSlot(t *testing.T) {
	p := on(t, "a", "x", "b", "y")
	remove(t, p, "a")
	for key, want := range map[string]api.Reply{"": api.ReplyNone, "a": api.ReplyNone, "b": api.ReplyValue} {
		if _, r := table.Get(p, key); r != want {
			t.Errorf("Get(%q): %v", key, r)
		}
	}
}
