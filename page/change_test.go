package page_test

import (
	"fmt"
	"maps"
	"math/rand"
	"slices"
	"strings"
	"testing"

	"flotilla/api"
)

// 6.2, and 6.4 of changes: each step is held against the model (see both), and the page is asked all behind it

func TestGet(t *testing.T) {
	x := begin(t, 0)
	for _, c := range []api.Pair{{Key: "k", Value: ""}, {Key: "kk", Value: "v"}, {Key: text(16), Value: text(32)}, {Key: "\x00", Value: "\x00"}} {
		x.want("Insert", x.insert(c.Key, c.Value), api.OK)
	}
	x.insert("gone", "g")
	x.delete("gone")
	x.insert("a", "b")
	x.delete("k")
	want := map[string]string{"kk": "v", text(16): text(32), "\x00": "\x00", "a": "b"}
	for _, key := range []string{"", "k", "kk", "kkk", "K", "gone", "g", "v", text(15), text(16), text(17), "\x00", "\x00\x00", "a", "b", strings.Repeat("k", 1000)} {
		v, ok := x.p.Get(key)
		if w, there := want[key]; v != w || ok != there {
			t.Errorf("Get %q: %q, %v", key, v, ok)
		}
	}
	x.check("Get changes nothing")
}

// lengths has keys and values at their limits and past them.
func lengths() (keys, values []int) {
	return []int{0, 1, 2, 15, 16, 17, 18, 255, 256, 257, 65537}, []int{0, 1, 31, 32, 33, 34, 255, 256, 288, 65536}
}

func TestStepsOfAllLengths(t *testing.T) {
	keys, values := lengths()
	for _, k := range keys {
		for _, v := range values {
			key, value := text(k), text(v)
			bad := k < 1 || k > 16 || v > 32
			pick := func(good api.Errno) api.Errno {
				if bad {
					return api.ErrArg
				}
				return good
			}
			x := begin(t, 5)
			x.insert("!", "first")
			x.insert("?", "free")
			x.insert("!!", "last")
			x.delete("?")
			what := fmt.Sprintf("a key of %d, a value of %d", k, v)
			x.want(what+": Update", x.update(key, value), pick(api.ErrNone))
			x.want(what+": Delete", x.delete(key), api.ErrNone)
			x.want(what+": Insert", x.insert(key, value), pick(api.OK))
			x.want(what+": Insert once more", x.insert(key, value), pick(api.ErrTwice))
			x.want(what+": Update of what is there", x.update(key, value), pick(api.OK))
			if !bad {
				x.want(what+": Delete of what is there", x.delete(key), api.OK)
			}
			x.want(what+": Delete of what isn't", x.delete(key), api.ErrNone)
		}
	}
}

// full is a page without a free byte: ten slots, all taken.
func full(t *testing.T) *both {
	t.Helper()
	x := begin(t, 4)
	for i := range 9 {
		x.insert(string(rune('a'+i))+text(15), text(32))
	}
	x.insert("rest", text(10))
	if x.p.Free() != 0 {
		t.Fatal("a full page has free bytes:", x.p.Free())
	}
	return x
}

func TestErrorsOfStepsInTheirOrder(t *testing.T) {
	x := full(t)
	there, absent := "a"+text(15), "absent"
	x.want("Insert of a value that may not be, for a key that is there", x.insert(there, text(33)), api.ErrArg)
	x.want("Insert of a value that may not be, with no room", x.insert(absent, text(33)), api.ErrArg)
	x.want("Insert of a key that may not be, with no room", x.insert("", ""), api.ErrArg)
	x.want("Insert of a key that is there, with no room", x.insert(there, text(32)), api.ErrTwice)
	x.want("Insert with no room", x.insert(absent, ""), api.ErrFull)
	x.want("Update to a value that may not be, of a key that isn't there", x.update(absent, text(33)), api.ErrArg)
	x.want("Update to a value that may not be", x.update(there, text(33)), api.ErrArg)
	x.want("Update of a key that may not be", x.update(text(17), ""), api.ErrArg)
	x.want("Update of a key that isn't there, with no room", x.update(absent, text(32)), api.ErrNone)
	x.want("Update with no room", x.update("rest", text(11)), api.ErrFull)
	x.want("Delete of a key that may not be", x.delete(""), api.ErrNone)
	x.want("Delete of a key that is too long", x.delete(text(17)), api.ErrNone)
	x.want("Delete of a key that isn't there", x.delete(absent), api.ErrNone)
}

func TestInsertIntoTheFirstFreeSlot(t *testing.T) {
	x := begin(t, 0)
	for i := range 6 {
		x.insert(string(rune('a'+i)), "v")
	}
	x.delete("b")
	x.delete("d")
	x.delete("e")
	for _, c := range []struct {
		key string
		at  int
	}{{"first", 1}, {"second", 3}, {"third", 4}, {"behind", 6}, {"behind all", 7}} {
		x.want(c.key, x.insert(c.key, ""), api.OK)
		if l := x.p.Cells(); len(l) <= c.at || l[c.at] != (api.Cell{Used: true, Key: c.key}) {
			t.Errorf("%s isn't in slot %d: %v", c.key, c.at, l)
		}
	}
	x.delete("a")
	x.insert("a", "w")
	if l := x.p.Cells(); l[0].Key != "a" {
		t.Errorf("the slot 0 was free: %v", l)
	}
}

func TestUpdateStaysInItsSlot(t *testing.T) {
	x := begin(t, 0)
	for i := range 4 {
		x.insert(string(rune('a'+i)), "v")
	}
	x.delete("a")
	for _, n := range []int{0, 1, 32, 31, 0, 5, 5} {
		x.want("Update", x.update("c", text(n)), api.OK)
		if l := x.p.Cells(); l[0].Used || l[2] != (api.Cell{Used: true, Key: "c", Value: text(n)}) {
			t.Errorf("cells: %v", l)
		}
	}
}

// roomy is a page with so many free bytes, and with a free slot or none: eight cells of 49, one of what is left.
func roomy(t *testing.T, free int, freeSlot bool) *both {
	t.Helper()
	x := begin(t, 6)
	for i := range 8 {
		x.insert(string(rune('a'+i))+text(15), text(32))
	}
	if freeSlot {
		x.insert("gone", "")
		x.insert("!", "")
		x.insert("?", "")
		x.delete("gone")
	} else {
		x.insert("!", "")
		x.insert("?", "")
	}
	left := x.p.Free() - free
	for _, key := range []string{"!", "?"} {
		n := min(left, 32)
		x.update(key, text(n))
		left -= n
	}
	if x.p.Free() != free {
		t.Fatal("free:", x.p.Free(), "and should be", free)
	}
	return x
}

func TestInsertOfJustTheFreeBytes(t *testing.T) {
	for _, freeSlot := range []bool{false, true} {
		slot := 4
		if freeSlot {
			slot = 0
		}
		for k := 1; k <= 16; k++ {
			for _, v := range []int{0, 1, 9, 32} {
				need := slot + 1 + k + v
				what := fmt.Sprintf("a key of %d, a value of %d, a free slot: %v", k, v, freeSlot)
				if need > 52 {
					continue
				}
				key := strings.Repeat("k", k)
				x := roomy(t, need, freeSlot)
				if v < 32 {
					x.want(what+", one byte more", x.insert(key, text(v+1)), api.ErrFull)
				}
				x.want(what, x.insert(key, text(v)), api.OK)
				if x.p.Free() != 0 {
					t.Error(what, "leaves", x.p.Free())
				}
				x = roomy(t, need-1, freeSlot)
				was := x.p.Bytes()
				x.want(what+", one free byte fewer", x.insert(key, text(v)), api.ErrFull)
				if !slices.Equal(was, x.p.Bytes()) {
					t.Error(what, "changed the page")
				}
			}
		}
	}
}

func TestUpdateByJustTheFreeBytes(t *testing.T) {
	for free := range 31 {
		for was := range 33 {
			x := roomy(t, free, free%2 == 0)
			key := "!"
			x.update(key, text(was))
			room := x.p.Free()
			for _, n := range []int{was + room + 1, was + room, was, 0} {
				want := api.OK
				if n > 32 {
					want = api.ErrArg
				} else if n > was+room {
					want = api.ErrFull
				}
				x.want(fmt.Sprintf("from %d to %d by %d", was, n, room), x.update(key, text(n)), want)
			}
		}
	}
	x := full(t)
	x.want("as long as it was, on a full page", x.update("rest", strings.Repeat("x", 10)), api.OK)
	x.want("shorter, on a full page", x.update("rest", "x"), api.OK)
	x.want("one byte too long", x.update("rest", text(11)), api.ErrFull)
	x.want("all of it once more", x.update("rest", text(10)), api.OK)
}

func TestSixtyFourSlots(t *testing.T) {
	x := begin(t, 15)
	key := func(i int) string { return string([]byte{byte(i)}) }
	for i := range 64 {
		x.want("Insert", x.insert(key(i), ""), api.OK)
	}
	if x.p.Free() != 112 {
		t.Error("Free:", x.p.Free())
	}
	x.want("one more", x.insert("z", ""), api.ErrFull)
	x.want("one more that is there", x.insert(key(9), ""), api.ErrTwice)
	x.want("an update", x.update(key(63), text(32)), api.OK)
	x.delete(key(10))
	x.want("into the slot that is free", x.insert("z", "zz"), api.OK)
	if c := x.p.Cells()[10]; c.Key != "z" {
		t.Error("slot 10:", c)
	}
	x.want("one more", x.insert("y", ""), api.ErrFull)
	x.delete(key(63))
	if len(x.p.Cells()) != 63 {
		t.Error("slots:", len(x.p.Cells()))
	}
	x.want("behind all", x.insert("y", "yy"), api.OK)
	x.want("one more", x.insert("w", ""), api.ErrFull)
	x.delete(key(0))
	x.delete(key(1))
	x.want("the first of two", x.insert("w", ""), api.OK)
	x.want("the second", x.insert("v", text(32)), api.OK)
	x.want("one more", x.insert("u", ""), api.ErrFull)
}

func TestDelete(t *testing.T) {
	three := func() *both {
		x := begin(t, 1)
		x.insert("a", "x")
		x.insert("b", "yy")
		x.insert("c", "zzz")
		return x
	}
	a, b, c := api.Cell{Used: true, Key: "a", Value: "x"}, api.Cell{Used: true, Key: "b", Value: "yy"}, api.Cell{Used: true, Key: "c", Value: "zzz"}
	for _, l := range []struct {
		keys string
		want []api.Cell
		free int
	}{
		{"a", []api.Cell{{}, b, c}, 496 - 12 - 4 - 5},
		{"b", []api.Cell{a, {}, c}, 496 - 12 - 3 - 5},
		{"c", []api.Cell{a, b}, 496 - 8 - 3 - 4},
		{"ab", []api.Cell{{}, {}, c}, 496 - 12 - 5},
		{"ac", []api.Cell{{}, b}, 496 - 8 - 4}, // the free one ahead of it stays: b stands between
		{"bc", []api.Cell{a}, 496 - 4 - 3},
		{"cb", []api.Cell{a}, 496 - 4 - 3},
		{"abc", nil, 496},
		{"bac", nil, 496},
		{"cba", nil, 496},
	} {
		x := three()
		for _, key := range l.keys {
			x.want("Delete", x.delete(string(key)), api.OK)
			x.want("Delete once more", x.delete(string(key)), api.ErrNone)
		}
		if got := x.p.Cells(); !slices.Equal(got, l.want) || x.p.Free() != l.free {
			t.Errorf("without %s: %v, %d free", l.keys, got, x.p.Free())
		}
	}
}

// TestAllShortRuns goes through all runs of four steps with three keys.
func TestAllShortRuns(t *testing.T) {
	const runs = 9 * 9 * 9 * 9
	for run := range runs {
		x := begin(t, 2)
		for n, left := 0, run; n < 4; n, left = n+1, left/9 {
			key, value := string(rune('a'+left%3)), text(n)
			switch left / 3 % 3 {
			case 0:
				x.insert(key, value)
			case 1:
				x.update(key, value)
			case 2:
				x.delete(key)
			}
		}
	}
}

// TestAgainstAMap holds a page against a map: each key has the value that it got last.
func TestAgainstAMap(t *testing.T) {
	for _, keys := range []int{3, 12, 40, 100} {
		from := rand.New(rand.NewSource(int64(keys)))
		x := begin(t, keys%16)
		want := map[string]string{}
		told := map[api.Errno]int{}
		for range 4000 {
			i := from.Intn(keys)
			key, value := strings.Repeat(string(rune('!'+i%90)), 1+i/90), text(from.Intn(33))
			if keys == 12 {
				key = strings.Repeat(key, 16)
			}
			if keys == 100 {
				value = text(from.Intn(3))
			}
			_, there := want[key]
			var e api.Errno
			switch from.Intn(8) {
			case 0, 1, 2:
				if e = x.insert(key, value); e == api.OK {
					want[key] = value
				}
				if (e == api.ErrTwice) != there {
					t.Fatal("Insert:", e, there)
				}
			case 3, 4, 5, 6:
				if e = x.update(key, value); e == api.OK {
					want[key] = value
				}
				if (e == api.ErrNone) == there {
					t.Fatal("Update:", e, there)
				}
			case 7:
				e = x.delete(key)
				delete(want, key)
				if (e == api.OK) != there {
					t.Fatal("Delete:", e, there)
				}
			}
			told[e]++
			value, there = want[key]
			if v, ok := x.p.Get(key); v != value || ok != there {
				t.Fatalf("Get %q: %q, %v", key, v, ok)
			}
			wantMap(t, x, want)
		}
		if told[api.OK] < 500 || told[api.ErrTwice] == 0 || told[api.ErrNone] == 0 || keys > 3 && told[api.ErrFull] == 0 {
			t.Error("the steps hardly do anything:", keys, told)
		}
	}
}

func wantMap(t *testing.T, x *both, want map[string]string) {
	t.Helper()
	got := map[string]string{}
	last := ""
	for _, c := range x.p.Pairs() {
		if c.Key <= last {
			t.Fatalf("%q behind %q", c.Key, last)
		}
		last = c.Key
		got[c.Key] = c.Value
	}
	if !maps.Equal(got, want) {
		t.Fatalf("%q, and should be %q", got, want)
	}
	for key, value := range want {
		if v, ok := x.p.Get(key); v != value || !ok {
			t.Fatalf("Get %q: %q, %v", key, v, ok)
		}
	}
}
