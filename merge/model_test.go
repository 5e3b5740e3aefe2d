package merge_test

import (
	"math"
	"math/rand"
	"reflect"
	"testing"

	"flotilla/api"
)

// top is the greatest LSN that the type has.
const top = api.Lsn(math.MaxUint64)

// lsns is records with these LSNs, and nothing else.
func lsns(ns ...api.Lsn) []api.Record {
	var l []api.Record
	for _, n := range ns {
		l = append(l, api.Record{Lsn: n})
	}
	return l
}

// full is a record with something in every field, other than another LSN's record has.
func full(n api.Lsn) api.Record {
	i := int(n % 1000)
	return api.Record{
		Kind: api.Kind(i%8 + 1), Lsn: n, Txn: i + 1, Prev: n / 2, Undo: n / 3, Page: i % 16,
		Act:   api.Act{Kind: api.ActKind(i%3 + 1), Key: "key", Old: string(rune('a' + i%26)), New: string(rune('b' + i%20))},
		Txns:  []api.Txn{{ID: i + 1, State: api.TxnCommitted, Last: n + 1}, {ID: i + 2, State: api.TxnAborted, Last: n + 2}},
		Dirty: []api.Dirty{{Page: i, Rec: n + 3}, {Page: i + 1, Rec: n + 4}, {Page: i + 2, Rec: n + 5}},
	}
}

// fulls is such records.
func fulls(ns ...api.Lsn) []api.Record {
	var l []api.Record
	for _, n := range ns {
		l = append(l, full(n))
	}
	return l
}

// deep is records in memory of their own.
func deep(l []api.Record) []api.Record {
	var c []api.Record
	for _, r := range l {
		r.Txns = append([]api.Txn(nil), r.Txns...)
		r.Dirty = append([]api.Dirty(nil), r.Dirty...)
		c = append(c, r)
	}
	return c
}

// deepLogs is logs in memory of their own.
func deepLogs(logs [][]api.Record) [][]api.Record {
	var c [][]api.Record
	for _, l := range logs {
		c = append(c, deep(l))
	}
	return c
}

// same holds records against each other field by field; nil and empty lists are one.
func same(a, b []api.Record) bool {
	return len(a) == len(b) && (len(a) == 0 || reflect.DeepEqual(deep(a), deep(b)))
}

// sameLogs holds logs against each other.
func sameLogs(a, b [][]api.Record) bool {
	if len(a) != len(b) {
		return false
	}
	for i := range a {
		if !same(a[i], b[i]) {
			return false
		}
	}
	return true
}

// numbers is the LSNs of records, for what a test tells when it fails.
func numbers(l []api.Record) []api.Lsn {
	ns := []api.Lsn{}
	for _, r := range l {
		ns = append(ns, r.Lsn)
	}
	return ns
}

// numbersOf is the LSNs of logs.
func numbersOf(logs [][]api.Record) [][]api.Lsn {
	ns := [][]api.Lsn{}
	for _, l := range logs {
		ns = append(ns, numbers(l))
	}
	return ns
}

// scribble writes over all the memory of records, with the room behind their lists.
func scribble(l []api.Record) {
	l = l[:cap(l)]
	for i := range l {
		txns, dirty := l[i].Txns[:cap(l[i].Txns)], l[i].Dirty[:cap(l[i].Dirty)]
		for k := range txns {
			txns[k] = api.Txn{ID: -1, State: 99, Last: 12345}
		}
		for k := range dirty {
			dirty[k] = api.Dirty{Page: -1, Rec: 12345}
		}
		l[i] = api.Record{Kind: -7, Lsn: 9, Txn: -7, Prev: 9, Undo: 9, Page: -7, Act: api.Act{Kind: -7, Key: "?", Old: "?", New: "?"}}
	}
}

// wantOwn asks of a call that its argument stays as it was, and that each answer has its memory for itself.
func wantOwn(t *testing.T, name string, l []api.Record, call func() []api.Record) {
	t.Helper()
	was := deep(l)
	first, second := call(), call()
	if !same(l, was) {
		t.Errorf("%s changed what was handed in: %v", name, numbers(l))
	}
	want := deep(first)
	if len(want) == 0 {
		t.Fatalf("%s: nothing to look at", name)
	}
	if !same(second, want) {
		t.Errorf("%s told %v at first, then %v", name, numbers(want), numbers(second))
	}
	scribble(first)
	if !same(second, want) {
		t.Errorf("%s: two answers share memory", name)
	}
	if !same(l, was) {
		t.Errorf("%s: an answer shares memory with what was handed in", name)
	}
	scribble(l)
	if !same(second, want) {
		t.Errorf("%s: what was handed in is kept in an answer", name)
	}
	for i := range second {
		scribble(second[i : i+1 : i+1])
		if i+1 < len(second) && !same(second[i+1:], want[i+1:]) {
			t.Errorf("%s: lists of one answer share memory", name)
		}
	}
}

// rising is n different LSNs below a bound, rising.
func rising(r *rand.Rand, n int, bound int) []api.Lsn {
	seen := make([]bool, bound)
	for range n {
		seen[r.Intn(bound)] = true
	}
	var ns []api.Lsn
	for i, s := range seen {
		if s {
			ns = append(ns, api.Lsn(i))
		}
	}
	return ns
}
