package table_test

import (
	"fmt"
	"hash/fnv"
	"math"
	"slices"
	"strings"
	"testing"

	"flotilla/api"
	"flotilla/table"
)

// 16.1

func TestExamples(t *testing.T) {
	if n := table.Home("", 4); n != 1 {
		t.Error(`Home("", 4):`, n)
	}
	want := []api.Want{{Name: "*", Mode: api.IX}, {Name: "p1", Mode: api.X}}
	if l := table.Wants(api.StepPut, "", 4); !slices.Equal(l, want) {
		t.Error(`Wants(StepPut, "", 4):`, l)
	}
}

// Sums that are known from elsewhere (FNV-1a), by all their digits.
func TestHomeOfKnownSums(t *testing.T) {
	for key, sum := range map[string]uint64{
		"":       0xcbf29ce484222325,
		"a":      0xaf63dc4c8601ec8c,
		"b":      0xaf63df4c8601f1a5,
		"foobar": 0x85944171f73967e8,
		"\x00":   0xaf63bd4c8601b7df,
		"\xff":   0xaf64724c8602eb6e,
	} {
		for _, pages := range []int{1, 2, 3, 4, 7, 8, 10, 15, 16, 1000, math.MaxInt32, 1 << 32, 1<<62 + 1, math.MaxInt} {
			if n := table.Home(key, pages); n != int(sum%uint64(pages)) {
				t.Errorf("Home(%q, %d): %d, not %d", key, pages, n, sum%uint64(pages))
			}
		}
	}
}

func TestHomeOfAllTexts(t *testing.T) {
	for _, key := range texts() {
		sum := fnv.New64a()
		sum.Write([]byte(key))
		for _, pages := range ints() {
			n := table.Home(key, pages)
			if want := homeOf(key, pages); n != want {
				t.Fatalf("Home(%.40q, %d): %d, not %d", key, pages, n, want)
			}
			if pages < 1 && n != 0 {
				t.Fatalf("Home(%.40q, %d): %d", key, pages, n)
			}
			if pages >= 1 && (n < 0 || n >= pages || n != int(sum.Sum64()%uint64(pages))) {
				t.Fatalf("Home(%.40q, %d): %d", key, pages, n)
			}
		}
	}
}

// Each byte counts, and where it stands.
func TestHomeOfEachByte(t *testing.T) {
	homes := map[int]string{}
	for c := range 256 {
		for _, key := range []string{string([]byte{byte(c)}), "a" + string([]byte{byte(c)}), string([]byte{byte(c)}) + "a"} {
			n := table.Home(key, math.MaxInt)
			if n != homeOf(key, math.MaxInt) {
				t.Fatalf("Home(%q): %d", key, n)
			}
			if other, ok := homes[n]; ok && other != key {
				t.Fatalf("%q and %q have one home", key, other)
			}
			homes[n] = key
		}
	}
	if len(homes) != 3*256-1 { // "aa" comes twice
		t.Error(len(homes), "homes")
	}
}

// Of few pages each is some key's home, and no other is.
func TestHomeIsOneOfThePages(t *testing.T) {
	for pages := 1; pages <= 16; pages++ {
		seen := make([]int, pages)
		for i := range 500 {
			key := fmt.Sprint("k", i)
			n := table.Home(key, pages)
			if n != homeOf(key, pages) {
				t.Fatalf("Home(%q, %d): %d", key, pages, n)
			}
			seen[n]++
		}
		if slices.Contains(seen, 0) {
			t.Errorf("%d pages, of which some are no key's home: %v", pages, seen)
		}
	}
}

func TestName(t *testing.T) {
	for id, want := range map[int]string{
		math.MinInt: "", math.MinInt32: "", -10: "", -2: "", -1: "",
		0: "p0", 1: "p1", 9: "p9", 10: "p10", 11: "p11", 15: "p15", 16: "p16", 99: "p99", 100: "p100",
		math.MaxInt32: "p2147483647", math.MaxInt32 + 1: "p2147483648", math.MaxInt: "p9223372036854775807",
	} {
		if s := table.Name(id); s != want {
			t.Errorf("Name(%d): %q, not %q", id, s, want)
		}
	}
	for _, id := range ints() {
		want := ""
		if id >= 0 {
			want = fmt.Sprintf("p%d", id)
		}
		if s := table.Name(id); s != want {
			t.Errorf("Name(%d): %q, not %q", id, s, want)
		}
	}
}

// TestWantsOfEachStep has each kind that is one by its name.
func TestWantsOfEachStep(t *testing.T) {
	read := []api.Want{{Name: "*", Mode: api.IS}, {Name: "p4", Mode: api.S}} // "a" on 8 pages
	change := []api.Want{{Name: "*", Mode: api.IX}, {Name: "p4", Mode: api.X}}
	all := []api.Want{{Name: "*", Mode: api.S}}
	want := map[api.StepKind][]api.Want{
		api.StepGet: read, api.StepPut: change, api.StepInsert: change, api.StepDelete: change, api.StepScan: all,
	}
	for k := api.StepNone; k <= api.StepCount; k++ {
		if l := table.Wants(k, "a", 8); !slices.Equal(l, want[k]) {
			t.Errorf("Wants(%d): %v, not %v", k, l, want[k])
		}
	}
}

// What is told is the caller's own: it is written over, with the room behind it, and asked for again.
func TestWantsOfAll(t *testing.T) {
	for _, k := range steps() {
		for _, key := range texts() {
			for _, pages := range []int{math.MinInt, -1, 0, 1, 2, 3, 8, 15, 16, 17, math.MaxInt} {
				for range 2 {
					l := table.Wants(k, key, pages)
					if !slices.Equal(l, wantsOf(k, key, pages)) {
						t.Fatalf("Wants(%d, %.40q, %d): %v", k, key, pages, l)
					}
					l = l[:cap(l)]
					for i := range l {
						l[i] = api.Want{Name: "scribbled", Mode: api.SIX}
					}
				}
			}
		}
	}
}

// Without a page, all keys' home is 0: so is the lock's name.
func TestWantsWithoutPages(t *testing.T) {
	for _, pages := range []int{math.MinInt, -1, 0} {
		if l := table.Wants(api.StepGet, "a", pages); !slices.Equal(l, []api.Want{{Name: "*", Mode: api.IS}, {Name: "p0", Mode: api.S}}) {
			t.Errorf("%d pages: %v", pages, l)
		}
	}
}

// The key's bytes are read alone: a text as long as a log has a home as well.
func TestHomeOfLongTexts(t *testing.T) {
	for _, n := range []int{17, 1000, 1 << 16} {
		key := strings.Repeat("\xff\x00a", n)
		if got := table.Home(key, 16); got != homeOf(key, 16) {
			t.Errorf("%d bytes: %d", len(key), got)
		}
	}
}
