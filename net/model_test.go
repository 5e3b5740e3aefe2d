package net_test

import (
	"math"
	"reflect"
	"slices"
	"strconv"
	"testing"
	"time"

	"flotilla/api"
	"flotilla/net"
)

// full is a message with something in every field, other than another number's message has.
func full(i int) api.Msg {
	return api.Msg{
		Kind: i + 1, Txn: i + 2, Page: i + 3, To: i + 4, Fast: true, Lsn: api.Lsn(i*16 + 1),
		Wants: []api.Want{{Name: "table", Mode: api.IX}, {Name: "page " + strconv.Itoa(i), Mode: api.X}},
		Pages: []int{i + 5, i + 6, i + 7},
		Body:  "body " + strconv.Itoa(i),
	}
}

// deep is a message in memory of its own; its empty lists are nil.
func deep(m api.Msg) api.Msg {
	m.Wants = append([]api.Want(nil), m.Wants...)
	m.Pages = append([]int(nil), m.Pages...)
	return m
}

// same holds messages against each other field by field; nil and empty lists are one.
func same(a, b api.Msg) bool {
	return reflect.DeepEqual(deep(a), deep(b))
}

// sameRow holds rows of messages against each other.
func sameRow(a, b []api.Msg) bool {
	return slices.EqualFunc(a, b, same)
}

// kinds is the messages' kinds, for what a test tells when it fails.
func kinds(l []api.Msg) []int {
	ns := []int{}
	for _, m := range l {
		ns = append(ns, m.Kind)
	}
	return ns
}

// scribble writes over all the memory that a message points at, with the room behind its lists.
func scribble(m api.Msg) {
	wants, pages := m.Wants[:cap(m.Wants)], m.Pages[:cap(m.Pages)]
	for i := range wants {
		wants[i] = api.Want{Name: "?", Mode: 99}
	}
	for i := range pages {
		pages[i] = -99
	}
}

// scribbleRow writes over all the memory of messages, with the room behind them.
func scribbleRow(l []api.Msg) {
	l = l[:cap(l)]
	for i := range l {
		scribble(l[i])
		l[i] = api.Msg{Kind: -99, Txn: -99, Page: -99, To: -99, Lsn: 99, Body: "?"}
	}
}

// between is a row's places.
type between struct{ from, to int }

// rowsOf is all rows of a net of n instances, written out by the document's words: from the manager, and to it.
func rowsOf(n int) []between {
	var all []between
	for i := 1; i <= n; i++ {
		all = append(all, between{0, i}, between{i, 0})
	}
	return all
}

// pairsOf is all pairs of places from -1 to n + 1, those with a row and those without.
func pairsOf(n int) []between {
	var all []between
	for from := -1; from <= n+1; from++ {
		for to := -1; to <= n+1; to++ {
			all = append(all, between{from, to})
		}
	}
	return all
}

// far are places at which something might go wrong.
func far() []int {
	return []int{math.MinInt, math.MinInt + 1, math.MinInt32, math.MinInt32 - 1, -1 << 16, -257, -9, -8, -2, -1, 9, 10, 15, 16, 17, 255, 256, 257, 1 << 16, 1<<16 + 1,
		math.MaxInt32, math.MaxInt32 + 1, 1 << 32, 1<<32 + 1, 1<<62 + 1, math.MaxInt - 1, math.MaxInt}
}

// twin is a net, and beside it, by the document's words, what its rows must have.
type twin struct {
	t    *testing.T
	net  *net.Net
	n    int
	rows map[between][]api.Msg // there is a row where there is a key
}

func newTwin(t *testing.T, n int) *twin {
	t.Helper()
	w := &twin{t: t, net: made(t, n), n: n, rows: map[between][]api.Msg{}}
	for _, b := range rowsOf(n) {
		w.rows[b] = nil
	}
	w.count()
	return w
}

// made is a net that must be.
func made(t *testing.T, n int) *net.Net {
	t.Helper()
	x, e := net.New(n)
	if e != api.OK || x == nil {
		t.Fatalf("New(%d): %v, %v", n, x, e)
	}
	return x
}

func (w *twin) send(from, to int, m api.Msg) api.Errno {
	w.t.Helper()
	row, is := w.rows[between{from, to}]
	want := api.OK
	if !is {
		want = api.ErrArg
	} else if len(row) == 256 {
		want = api.ErrFull
	} else {
		w.rows[between{from, to}] = append(row, deep(m))
	}
	was := deep(m)
	if e := w.net.Send(from, to, m); e != want {
		w.t.Fatalf("Send(%d, %d) with %d there: %v, and should be %v", from, to, len(row), e, want)
	}
	if !same(m, was) {
		w.t.Fatalf("Send(%d, %d) changed what was handed in: %v", from, to, m)
	}
	w.count()
	return want
}

func (w *twin) take(from, to int) (api.Msg, bool) {
	w.t.Helper()
	row := w.rows[between{from, to}]
	var want api.Msg
	if len(row) > 0 {
		want = row[0]
		w.rows[between{from, to}] = row[1:]
	}
	m, ok := w.net.Take(from, to)
	if ok != (len(row) > 0) || !same(m, want) {
		w.t.Fatalf("Take(%d, %d) with %v there: %v, %v", from, to, kinds(row), m, ok)
	}
	if !ok && (m.Wants != nil || m.Pages != nil) {
		w.t.Fatalf("Take(%d, %d) with none there: not the zero message", from, to)
	}
	w.count()
	return m, ok
}

func (w *twin) cut(place int) int {
	w.t.Helper()
	want := 0
	if place >= 1 && place <= w.n {
		for _, b := range []between{{place, 0}, {0, place}} {
			want += len(w.rows[b])
			w.rows[b] = nil
		}
	}
	if n := w.net.Cut(place); n != want {
		w.t.Fatalf("Cut(%d): %d, and should be %d", place, n, want)
	}
	w.count()
	return want
}

func (w *twin) peek(from, to int) []api.Msg {
	w.t.Helper()
	l := w.net.Peek(from, to)
	if want := w.rows[between{from, to}]; !sameRow(l, want) {
		w.t.Fatalf("Peek(%d, %d): %v, and should be %v", from, to, kinds(l), kinds(want))
	}
	w.count()
	return l
}

// count asks how many messages there are, of every pair of places and in all.
func (w *twin) count() {
	w.t.Helper()
	sum := 0
	for _, b := range pairsOf(w.n) {
		want := len(w.rows[b])
		sum += want
		if n := w.net.Len(b.from, b.to); n != want {
			w.t.Fatalf("Len(%d, %d): %d, and should be %d", b.from, b.to, n, want)
		}
	}
	if n := w.net.Sum(); n != sum {
		w.t.Fatalf("Sum: %d, and should be %d", n, sum)
	}
}

// look asks what stands in every row, and of every pair of places without one.
func (w *twin) look() {
	w.t.Helper()
	for _, b := range pairsOf(w.n) {
		w.peek(b.from, b.to)
	}
}

// drain takes all messages off, and one more of each row.
func (w *twin) drain() {
	w.t.Helper()
	for _, b := range rowsOf(w.n) {
		for ok := true; ok; {
			_, ok = w.take(b.from, b.to)
		}
	}
}

// fill sends so many messages, numbered from a number on.
func (w *twin) fill(b between, n, from int) {
	w.t.Helper()
	for i := range n {
		w.send(b.from, b.to, full(from+i))
	}
}

// ends fails, if what is done doesn't come to its end: a call that waits would wait for ever.
func ends(t *testing.T, what string, do func()) {
	t.Helper()
	over := make(chan bool)
	go func() {
		defer close(over)
		defer func() {
			if p := recover(); p != nil {
				t.Errorf("%s: a panic: %v", what, p)
			}
		}()
		do()
	}()
	select {
	case <-over:
	case <-time.After(2 * time.Minute):
		t.Fatalf("%s: no end", what)
	}
}

// A message that is to come back with something in every field has something in every field.
func TestFullMessagesAreFull(t *testing.T) {
	for i := range 3 {
		v := reflect.ValueOf(full(i))
		for k := range v.NumField() {
			if v.Field(k).IsZero() {
				t.Errorf("the field %s has nothing", v.Type().Field(k).Name)
			}
		}
	}
}
