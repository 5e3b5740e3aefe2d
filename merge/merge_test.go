package merge_test

import (
	"fmt"
	"math/rand"
	"slices"
	"sort"
	"testing"

	"flotilla/api"
	"flotilla/merge"
)

// 10.2, 10.4: logs as one

// risesByWord: each one's LSN is above that of the one ahead of it, asked of all pairs.
func risesByWord(l []api.Record) bool {
	for i := range l {
		for k := range i {
			if l[k].Lsn >= l[i].Lsn {
				return false
			}
		}
	}
	return true
}

// mergedByWord is what Merge should tell: all records, sorted.
func mergedByWord(logs [][]api.Record) ([]api.Record, api.Errno) {
	var all []api.Record
	for _, l := range logs {
		if !risesByWord(l) {
			return nil, api.ErrArg
		}
		all = append(all, deep(l)...)
	}
	sort.SliceStable(all, func(a, b int) bool { return all[a].Lsn < all[b].Lsn })
	for i := 1; i < len(all); i++ {
		if all[i].Lsn == all[i-1].Lsn {
			return nil, api.ErrTwice
		}
	}
	return all, api.OK
}

// wantMerge asks for records and an error.
func wantMerge(t *testing.T, logs [][]api.Record, want []api.Record, e api.Errno) {
	t.Helper()
	was := deepLogs(logs)
	got, err := merge.Merge(logs)
	if err != e || !same(got, want) {
		t.Fatalf("Merge of %v: %v, %d, and should be %v, %d", numbersOf(was), numbers(got), err, numbers(want), e)
	}
	if !sameLogs(logs, was) {
		t.Fatalf("Merge of %v changed it: %v", numbersOf(was), numbersOf(logs))
	}
}

func TestRises(t *testing.T) {
	for _, c := range []struct {
		l    []api.Record
		want bool
	}{
		{nil, true},
		{[]api.Record{}, true},
		{lsns(0), true},
		{lsns(16), true},
		{lsns(top), true},
		{lsns(0, 1), true},
		{lsns(1, 0), false},
		{lsns(0, 0), false},
		{lsns(16, 16), false},
		{lsns(top, top), false},
		{lsns(0, top), true},
		{lsns(top, 0), false},
		{lsns(top-1, top), true},
		{lsns(top, top-1), false},
		{lsns(1<<63-1, 1<<63), true},
		{lsns(1<<63, 1<<63-1), false},
		{lsns(16, 17, 33, 48), true},
		{lsns(16, 17, 48, 33), false},
		{lsns(17, 16, 33, 48), false},
		{lsns(16, 33, 17, 48), false},
		{lsns(16, 17, 33, 33), false},
		{lsns(16, 16, 33, 48), false},
		{lsns(16, 33, 33, 48), false},
		{lsns(16, 48, 17, 49), false},
		{lsns(5, 4, 3, 2, 1), false},
	} {
		if got := merge.Rises(c.l); got != c.want {
			t.Errorf("Rises of %v: %v", numbers(c.l), got)
		}
	}
}

// Only LSNs are asked.
func TestRisesAsksForNothingElse(t *testing.T) {
	l := fulls(16, 32, 48)
	l[0].Kind, l[1].Kind, l[2].Kind = 99, -1, 0
	l[0].Txn, l[0].Prev, l[0].Page = 9, 99, 99
	if !merge.Rises(l) {
		t.Error("LSNs that rise, with other fields that don't")
	}
	l[2].Lsn = 31
	if merge.Rises(l) {
		t.Error("LSNs that fall")
	}
}

func TestRisesOfAllSmallOnes(t *testing.T) {
	for code := range 4 * 4 * 4 * 4 * 4 {
		for n := range 6 {
			var l []api.Record
			for i, c := 0, code; i < n; i, c = i+1, c/4 {
				l = append(l, api.Record{Lsn: api.Lsn(c % 4)})
			}
			if got := merge.Rises(l); got != risesByWord(l) {
				t.Fatalf("Rises of %v: %v", numbers(l), got)
			}
		}
	}
}

func TestMergeExample(t *testing.T) {
	wantMerge(t, [][]api.Record{fulls(16, 48), fulls(17, 33)}, fulls(16, 17, 33, 48), api.OK)
	wantMerge(t, [][]api.Record{fulls(17, 33), fulls(16, 48)}, fulls(16, 17, 33, 48), api.OK)
}

func TestMerge(t *testing.T) {
	type logs = [][]api.Record
	for _, c := range []struct {
		logs logs
		want []api.Record
	}{
		{nil, nil},
		{logs{}, nil},
		{logs{nil}, nil},
		{logs{{}, nil, {}}, nil},
		{logs{fulls(16)}, fulls(16)},
		{logs{fulls(16, 32, 48)}, fulls(16, 32, 48)},
		{logs{nil, fulls(16, 32)}, fulls(16, 32)},
		{logs{fulls(16, 32), {}}, fulls(16, 32)},
		{logs{{}, fulls(32), nil, fulls(16), {}}, fulls(16, 32)},
		{logs{fulls(0)}, fulls(0)},
		{logs{fulls(16), fulls(0)}, fulls(0, 16)},
		{logs{fulls(top), fulls(0)}, fulls(0, top)},
		{logs{fulls(1, top), fulls(0, top-1)}, fulls(0, 1, top-1, top)},
		{logs{fulls(1, 2, 3), fulls(4, 5, 6), fulls(7, 8)}, fulls(1, 2, 3, 4, 5, 6, 7, 8)},
		{logs{fulls(7, 8), fulls(4, 5, 6), fulls(1, 2, 3)}, fulls(1, 2, 3, 4, 5, 6, 7, 8)},
		{logs{fulls(1, 4, 7), fulls(2, 5, 8), fulls(3, 6, 9)}, fulls(1, 2, 3, 4, 5, 6, 7, 8, 9)},
		{logs{fulls(1, 9), fulls(2), fulls(3), fulls(4, 5)}, fulls(1, 2, 3, 4, 5, 9)},
		{logs{fulls(1<<63, 1<<63+1), fulls(1<<63-1, 1<<63+2)}, fulls(1<<63-1, 1<<63, 1<<63+1, 1<<63+2)},
	} {
		wantMerge(t, c.logs, c.want, api.OK)
	}
}

func TestMergeOfLogsThatDoNotRise(t *testing.T) {
	type logs = [][]api.Record
	for _, bad := range [][]api.Record{fulls(48, 16), fulls(16, 16), fulls(100, 101, 90), fulls(0, 0), fulls(top, 0), fulls(100, 102, 102, 104)} {
		wantMerge(t, logs{bad}, nil, api.ErrArg)
		wantMerge(t, logs{bad, fulls(17, 33), fulls(18)}, nil, api.ErrArg)
		wantMerge(t, logs{fulls(17, 33), bad, fulls(18)}, nil, api.ErrArg)
		wantMerge(t, logs{fulls(17, 33), fulls(18), bad}, nil, api.ErrArg)
		wantMerge(t, logs{nil, bad, {}}, nil, api.ErrArg)
		wantMerge(t, logs{bad, bad}, nil, api.ErrArg)
	}
}

func TestMergeOfOneLsnTwice(t *testing.T) {
	type logs = [][]api.Record
	for _, l := range []logs{
		{fulls(16), fulls(16)},
		{fulls(0), fulls(0)},
		{fulls(top), fulls(top)},
		{fulls(0, 5), fulls(1), fulls(0)},
		{fulls(16, 32), fulls(16, 48)},                      // at their beginnings
		{fulls(16, 32, 64), fulls(17, 32, 48)},              // amid them
		{fulls(16, 64), fulls(17, 64)},                      // at their ends
		{fulls(16, 32), fulls(32, 48)},                      // the end of one, the beginning of the other
		{fulls(32, 48), fulls(16, 32)},                      // and the other way round
		{fulls(16, 32), fulls(17), fulls(18), fulls(1, 32)}, // the first and the last
		{fulls(1, 50), fulls(2, 50), fulls(3, 50)},          // three of them
		{fulls(1, 2, 3), fulls(1, 2, 3)},
		{nil, fulls(5), {}, fulls(5)},
		{lsns(16), fulls(16)}, // whatever else they have
	} {
		wantMerge(t, l, nil, api.ErrTwice)
	}
	l := fulls(16, 32)
	wantMerge(t, logs{l, l}, nil, api.ErrTwice)
}

// A log that doesn't rise is told ahead of one LSN twice, wherever both stand.
func TestMergeOfBothFaults(t *testing.T) {
	parts := [][]api.Record{fulls(16, 32), fulls(16, 48), fulls(90, 80), fulls(100)}
	for _, row := range rows(len(parts)) {
		var logs [][]api.Record
		for _, i := range row {
			logs = append(logs, parts[i])
		}
		wantMerge(t, logs, nil, api.ErrArg)
	}
	wantMerge(t, [][]api.Record{fulls(16), fulls(16, 16)}, nil, api.ErrArg)
	wantMerge(t, [][]api.Record{fulls(16, 20), fulls(16, 30, 25)}, nil, api.ErrArg)
}

// someLogs is logs whose LSNs are dealt out, so that none is there twice.
func someLogs(r *rand.Rand, n, records int) [][]api.Record {
	logs := make([][]api.Record, n)
	for _, l := range rising(r, records, 3*records+1) {
		i := r.Intn(n)
		logs[i] = append(logs[i], full(l))
	}
	return logs
}

func TestMergeOfSomeLogs(t *testing.T) {
	r := rand.New(rand.NewSource(2))
	told := map[api.Errno]int{}
	for round := range 3000 {
		logs := someLogs(r, 1+r.Intn(9), r.Intn(40))
		for range round % 3 { // faults
			from, to := logs[r.Intn(len(logs))], r.Intn(len(logs))
			if len(from) > 0 {
				logs[to] = slices.Insert(slices.Clone(logs[to]), r.Intn(len(logs[to])+1), from[r.Intn(len(from))])
			}
		}
		if r.Intn(2) == 0 {
			for i := range logs {
				slices.SortFunc(logs[i], func(a, b api.Record) int { return int(a.Lsn) - int(b.Lsn) })
			}
		}
		want, e := mergedByWord(logs)
		wantMerge(t, logs, want, e)
		told[e]++
	}
	if told[api.OK] < 100 || told[api.ErrArg] < 100 || told[api.ErrTwice] < 100 {
		t.Fatal("too few of one kind:", told)
	}
}

func TestMergeInAnyOrder(t *testing.T) {
	r := rand.New(rand.NewSource(3))
	for round := range 40 {
		logs := someLogs(r, 4, r.Intn(20))
		if round%4 == 1 {
			logs[1] = append(logs[1], fulls(1000)...)
			logs[3] = append(logs[3], fulls(1000)...)
		}
		if round%8 == 5 {
			logs[2] = append(logs[2], fulls(0)...)
		}
		want, e := mergedByWord(logs)
		for _, row := range rows(4) {
			var other [][]api.Record
			for _, i := range row {
				other = append(other, logs[i])
			}
			wantMerge(t, other, want, e)
		}
	}
}

// Any of the logs are put together ahead, and the others with them.
func TestMergeBitByBit(t *testing.T) {
	r := rand.New(rand.NewSource(4))
	for range 40 {
		logs := someLogs(r, 5, r.Intn(30))
		want, _ := mergedByWord(logs)
		for some := range 1 << len(logs) {
			var ahead, rest [][]api.Record
			for i, l := range logs {
				if some>>i&1 == 1 {
					ahead = append(ahead, l)
				} else {
					rest = append(rest, l)
				}
			}
			one, e := merge.Merge(ahead)
			if e != api.OK {
				t.Fatal("a part:", e)
			}
			wantMerge(t, append(rest, one), want, api.OK)
			wantMerge(t, append([][]api.Record{one}, rest...), want, api.OK)
		}
		one := []api.Record{}
		for _, l := range logs {
			one, _ = merge.Merge([][]api.Record{one, l})
		}
		if !same(one, want) {
			t.Fatalf("one behind the other: %v, and should be %v", numbers(one), numbers(want))
		}
	}
}

func TestMergeOfManyLogs(t *testing.T) {
	const n = 3000
	mixed := rand.New(rand.NewSource(5)).Perm(2 * n)
	var logs [][]api.Record
	var want []api.Record
	for i := range n {
		a, b := mixed[2*i], mixed[2*i+1]
		logs = append(logs, lsns(api.Lsn(min(a, b)), api.Lsn(max(a, b))))
		want = append(want, lsns(api.Lsn(2*i), api.Lsn(2*i+1))...)
	}
	wantMerge(t, logs, want, api.OK)
	wantMerge(t, append(logs, lsns(2*n-1)), nil, api.ErrTwice)
	wantMerge(t, append(logs, lsns(3*n, 3*n)), nil, api.ErrArg)
}

func TestMergeOfLongLogs(t *testing.T) {
	const n = 60000
	logs := make([][]api.Record, 3)
	var want []api.Record
	for i := range n {
		logs[i%7%3] = append(logs[i%7%3], api.Record{Lsn: api.Lsn(i)})
		want = append(want, api.Record{Lsn: api.Lsn(i)})
	}
	wantMerge(t, logs, want, api.OK)
}

func TestMergeMemory(t *testing.T) {
	for _, cut := range []int{0, 1, 3, 5} {
		l := fulls(16, 17, 33, 48, 50)
		wantOwn(t, "Merge", l, func() []api.Record {
			all, e := merge.Merge([][]api.Record{l[:cut], l[cut:]})
			if e != api.OK {
				t.Fatal(e)
			}
			return all
		})
	}
}

func TestFrom(t *testing.T) {
	l := fulls(16, 33, 48, 90)
	for _, c := range []struct {
		at   api.Lsn
		want []api.Record
	}{
		{0, fulls(16, 33, 48, 90)},
		{15, fulls(16, 33, 48, 90)},
		{16, fulls(16, 33, 48, 90)},
		{17, fulls(33, 48, 90)},
		{32, fulls(33, 48, 90)},
		{33, fulls(33, 48, 90)},
		{34, fulls(48, 90)},
		{48, fulls(48, 90)},
		{49, fulls(90)},
		{90, fulls(90)},
		{91, nil},
		{top, nil},
	} {
		if got := merge.From(l, c.at); !same(got, c.want) {
			t.Errorf("From %d on: %v, and should be %v", c.at, numbers(got), numbers(c.want))
		}
	}
	for _, at := range []api.Lsn{0, 1, 16, top} {
		if got := merge.From(nil, at); len(got) != 0 {
			t.Errorf("From %d on, of nil: %v", at, numbers(got))
		}
		if got := merge.From([]api.Record{}, at); len(got) != 0 {
			t.Errorf("From %d on, of none: %v", at, numbers(got))
		}
	}
	edges := fulls(0, 1<<63-1, 1<<63, top)
	for i, at := range numbers(edges) {
		if got := merge.From(edges, at); !same(got, edges[i:]) {
			t.Errorf("From %d on: %v", at, numbers(got))
		}
	}
}

// Records that don't rise stay in their order, two of one LSN both.
func TestFromOfRecordsThatDoNotRise(t *testing.T) {
	l := fulls(48, 16, 33, 16, 90, 33, 0)
	for _, c := range []struct {
		at   api.Lsn
		want []api.Record
	}{
		{0, l},
		{1, fulls(48, 16, 33, 16, 90, 33)},
		{16, fulls(48, 16, 33, 16, 90, 33)},
		{17, fulls(48, 33, 90, 33)},
		{33, fulls(48, 33, 90, 33)},
		{34, fulls(48, 90)},
		{49, fulls(90)},
		{91, nil},
	} {
		if got := merge.From(l, c.at); !same(got, c.want) {
			t.Errorf("From %d on: %v, and should be %v", c.at, numbers(got), numbers(c.want))
		}
	}
}

func TestFromOfSomeRecords(t *testing.T) {
	r := rand.New(rand.NewSource(6))
	for range 500 {
		var l []api.Record
		for range r.Intn(12) {
			l = append(l, full(api.Lsn(r.Intn(12))))
		}
		for at := range api.Lsn(14) {
			var want []api.Record
			for _, x := range l {
				if !(x.Lsn < at) {
					want = append(want, x)
				}
			}
			if got := merge.From(l, at); !same(got, want) {
				t.Fatalf("From %d on, of %v: %v", at, numbers(l), numbers(got))
			}
		}
	}
}

func TestFromMemory(t *testing.T) {
	for _, at := range []api.Lsn{0, 16, 33} {
		l := fulls(16, 17, 33, 48)
		wantOwn(t, fmt.Sprint("From ", at), l, func() []api.Record { return merge.From(l, at) })
	}
}
