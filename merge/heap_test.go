package merge_test

import (
	"math/rand"
	"slices"
	"strings"
	"testing"

	"flotilla/merge"
)

// 10.1, 10.4: heaps

// bag is a heap, and beside it what must be on it.
type bag[T comparable] struct {
	t    *testing.T
	heap *merge.Heap[T]
	less func(a, b T) bool
	held []T
}

func newBag[T comparable](t *testing.T, less func(a, b T) bool) *bag[T] {
	b := &bag[T]{t: t, heap: merge.NewHeap(less), less: less}
	b.count()
	return b
}

func (b *bag[T]) count() {
	b.t.Helper()
	if n := b.heap.Len(); n != len(b.held) {
		b.t.Fatalf("Len is %d, with %v", n, b.held)
	}
}

func (b *bag[T]) push(x T) {
	b.t.Helper()
	b.heap.Push(x)
	b.held = append(b.held, x)
	b.count()
}

// pop asks that what comes off was there, and that none of the others is less.
func (b *bag[T]) pop() T {
	b.t.Helper()
	x, ok := b.heap.Pop()
	if len(b.held) == 0 {
		var zero T
		if ok || x != zero {
			b.t.Fatalf("Pop of an empty one: %v, %v", x, ok)
		}
		b.count()
		return x
	}
	i := slices.Index(b.held, x)
	if !ok || i < 0 {
		b.t.Fatalf("Pop: %v, %v, with %v", x, ok, b.held)
	}
	b.held = slices.Delete(b.held, i, i+1)
	for _, y := range b.held {
		if b.less(y, x) {
			b.t.Fatalf("Pop: %v, and %v is less", x, y)
		}
	}
	b.count()
	return x
}

// drain takes all off, and asks that none is less than one that came off ahead of it.
func (b *bag[T]) drain() []T {
	b.t.Helper()
	var off []T
	for len(b.held) > 0 {
		x := b.pop()
		for _, y := range off {
			if b.less(x, y) {
				b.t.Fatalf("%v comes off behind %v", x, y)
			}
		}
		off = append(off, x)
	}
	b.pop()
	return off
}

// turns pushes and pops in turns, more of the one at first and more of the other then.
func turns[T comparable](t *testing.T, name string, less func(a, b T) bool, things func(r *rand.Rand) T) {
	t.Helper()
	t.Run(name, func(t *testing.T) {
		r := rand.New(rand.NewSource(10))
		for round := range 60 {
			b := newBag(t, less)
			for range r.Intn(120) {
				if r.Intn(10) < 7-round%4 {
					b.push(things(r))
				} else {
					b.pop()
				}
			}
			b.drain()
			b.push(things(r)) // one that was emptied goes on
			b.drain()
		}
	})
}

type ship struct {
	name  string
	crew  int
	masts int
}

func someShip(r *rand.Rand) ship {
	return ship{name: string(rune('a' + r.Intn(5))), crew: r.Intn(6), masts: r.Intn(4)}
}

func someText(r *rand.Rand) string {
	b := make([]byte, r.Intn(4))
	for i := range b {
		b[i] = "ab\x00\xff"[r.Intn(4)]
	}
	return string(b)
}

func TestHeapOfNumbers(t *testing.T) {
	small := func(r *rand.Rand) int { return r.Intn(30) - 15 }
	wide := func(r *rand.Rand) int { return int(r.Uint64()) }
	turns(t, "up", func(a, b int) bool { return a < b }, small)
	turns(t, "down", func(a, b int) bool { return a > b }, small)
	turns(t, "wide up", func(a, b int) bool { return a < b }, wide)
	turns(t, "wide down", func(a, b int) bool { return a > b }, wide)
	turns(t, "bytes", func(a, b byte) bool { return a < b }, func(r *rand.Rand) byte { return byte(r.Int()) })
	turns(t, "floats", func(a, b float64) bool { return a < b }, func(r *rand.Rand) float64 { return r.NormFloat64() })
}

func TestHeapOfTexts(t *testing.T) {
	turns(t, "up", func(a, b string) bool { return a < b }, someText)
	turns(t, "down", func(a, b string) bool { return a > b }, someText)
	turns(t, "longest", func(a, b string) bool { return len(a) > len(b) }, someText)
}

func TestHeapOfThingsWithFields(t *testing.T) {
	turns(t, "by one field", func(a, b ship) bool { return a.crew < b.crew }, someShip)
	turns(t, "by one field, down", func(a, b ship) bool { return a.masts > b.masts }, someShip)
	turns(t, "by all", func(a, b ship) bool {
		if a.name != b.name {
			return a.name < b.name
		}
		if a.crew != b.crew {
			return a.crew > b.crew
		}
		return a.masts < b.masts
	}, someShip)
	turns(t, "nothing to tell apart", func(a, b struct{}) bool { return false }, func(*rand.Rand) struct{} { return struct{}{} })
}

func TestHeapWhereSomeAreNeitherLessNorGreater(t *testing.T) {
	few := func(r *rand.Rand) int { return r.Intn(40) + 1 }
	turns(t, "by tens", func(a, b int) bool { return a/10 < b/10 }, few)
	turns(t, "none is less", func(a, b int) bool { return false }, few)
	turns(t, "by what divides what", func(a, b int) bool { return a != b && b%a == 0 }, few)
	turns(t, "by what has whose bits", func(a, b int) bool { return a != b && a&b == a }, few)
	turns(t, "far apart", func(a, b int) bool { return a+5 < b }, few)
	turns(t, "one beginning with the other", func(a, b string) bool { return a != b && strings.HasPrefix(b, a) }, someText)
	turns(t, "both fields", func(a, b ship) bool {
		return a.crew <= b.crew && a.masts <= b.masts && (a.crew < b.crew || a.masts < b.masts)
	}, someShip)
}

// orders is all orders of n things (1, 2, 4, 8, .. as a number's bits: which of the n are greater than the one).
func orders(n int) [][]int {
	var all [][]int
	pairs := n * n
	for code := range 1 << pairs {
		above := make([]int, n)
		for i := range n {
			above[i] = code >> (i * n) & (1<<n - 1)
		}
		if isOrder(above) {
			all = append(all, above)
		}
	}
	return all
}

// isOrder: none is greater than itself, and what is above one that is above is above.
func isOrder(above []int) bool {
	for i, a := range above {
		if a>>i&1 == 1 {
			return false
		}
		for k, b := range above {
			if a>>k&1 == 1 && b&^a != 0 {
				return false
			}
		}
	}
	return true
}

// rows is every row of 0 to n-1.
func rows(n int) [][]int {
	if n == 0 {
		return [][]int{{}}
	}
	var all [][]int
	for _, row := range rows(n - 1) {
		for i := range n {
			all = append(all, slices.Insert(slices.Clone(row), i, n-1))
		}
	}
	return all
}

func TestHeapByEveryOrderOfFour(t *testing.T) {
	all := orders(4)
	if len(all) != 219 {
		t.Fatal("orders of four things:", len(all))
	}
	for _, above := range all {
		less := func(a, b int) bool { return above[a]>>b&1 == 1 }
		for _, row := range rows(4) {
			for pops := range 8 { // behind which of the first three pushes one is taken off
				b := newBag(t, less)
				for i, x := range row {
					b.push(x)
					if pops>>i&1 == 1 {
						b.pop()
					}
				}
				b.drain()
			}
		}
	}
}

func TestHeapOfNone(t *testing.T) {
	h := merge.NewHeap(func(a, b int) bool { return a < b })
	for range 3 {
		if h.Len() != 0 {
			t.Fatal("Len of an empty one:", h.Len())
		}
		if x, ok := h.Pop(); x != 0 || ok {
			t.Fatal("Pop of an empty one:", x, ok)
		}
	}
	h.Push(7)
	if x, ok := h.Pop(); x != 7 || !ok || h.Len() != 0 {
		t.Fatal("the one:", x, ok, h.Len())
	}
	if x, ok := h.Pop(); x != 0 || ok || h.Len() != 0 {
		t.Fatal("behind the one:", x, ok, h.Len())
	}
	ships := merge.NewHeap(func(a, b ship) bool { return a.crew < b.crew })
	if x, ok := ships.Pop(); x != (ship{}) || ok {
		t.Fatal("no ship:", x, ok)
	}
	lists := merge.NewHeap(func(a, b []int) bool { return len(a) < len(b) })
	lists.Push([]int{1})
	lists.Pop()
	if x, ok := lists.Pop(); x != nil || ok {
		t.Fatal("no list:", x, ok)
	}
}

// A zero thing that was put on comes off beside true.
func TestHeapOfZeroThings(t *testing.T) {
	h := merge.NewHeap(func(a, b string) bool { return a < b })
	h.Push("")
	h.Push("")
	for i := range 2 {
		if x, ok := h.Pop(); x != "" || !ok || h.Len() != 1-i {
			t.Fatalf("%q %v %d", x, ok, h.Len())
		}
	}
	if _, ok := h.Pop(); ok {
		t.Fatal("a third one")
	}
}

func TestHeapTellsTheThingItself(t *testing.T) {
	h := merge.NewHeap(func(a, b *ship) bool { return a.crew < b.crew })
	a, b := &ship{crew: 2}, &ship{crew: 1}
	h.Push(a)
	h.Push(b)
	if x, _ := h.Pop(); x != b {
		t.Fatal("not the same ship:", x)
	}
	if x, _ := h.Pop(); x != a {
		t.Fatal("not the same ship:", x)
	}
}

func TestHeapsAreApart(t *testing.T) {
	less := func(a, b int) bool { return a < b }
	a, b := merge.NewHeap(less), merge.NewHeap(less)
	a.Push(3)
	b.Push(1)
	b.Push(2)
	if x, ok := a.Pop(); x != 3 || !ok || a.Len() != 0 || b.Len() != 2 {
		t.Fatal(x, ok, a.Len(), b.Len())
	}
	if x, ok := b.Pop(); x != 1 || !ok || b.Len() != 1 {
		t.Fatal(x, ok, b.Len())
	}
}

func TestHeapOfMany(t *testing.T) {
	const n = 50000
	mixed := rand.New(rand.NewSource(1)).Perm(n)
	for name, thing := range map[string]func(i int) int{
		"rising":  func(i int) int { return i },
		"falling": func(i int) int { return n - 1 - i },
		"mixed":   func(i int) int { return mixed[i] },
	} {
		h := merge.NewHeap(func(a, b int) bool { return a < b })
		for i := range n {
			h.Push(thing(i))
		}
		for i := range n {
			if h.Len() != n-i {
				t.Fatal(name, "Len:", h.Len())
			}
			if x, ok := h.Pop(); x != i || !ok {
				t.Fatal(name, "in the place of", i, x, ok)
			}
		}
		if _, ok := h.Pop(); ok {
			t.Fatal(name, "one more")
		}
	}
}

func TestNilHeap(t *testing.T) {
	var numbers *merge.Heap[int]
	var ships *merge.Heap[ship]
	var texts *merge.Heap[string]
	for range 2 {
		numbers.Push(5)
		ships.Push(ship{crew: 1})
		texts.Push("a")
		if n := numbers.Len() + ships.Len() + texts.Len(); n != 0 {
			t.Fatal("Len:", n)
		}
		if x, ok := numbers.Pop(); x != 0 || ok {
			t.Fatal("Pop:", x, ok)
		}
		if x, ok := ships.Pop(); x != (ship{}) || ok {
			t.Fatal("Pop:", x, ok)
		}
		if x, ok := texts.Pop(); x != "" || ok {
			t.Fatal("Pop:", x, ok)
		}
	}
}

// Whatever less is: nothing panics, and what was put on comes off, each as often.
func TestHeapWithoutAnOrder(t *testing.T) {
	for name, less := range map[string]func(a, b int) bool{
		"nil":           nil,
		"that panics":   func(a, b int) bool { panic("no") },
		"that panics 3": func(a, b int) bool { return []bool{true, false, true}[(a+b)%4] },
		"always":        func(a, b int) bool { return true },
		"in a ring":     func(a, b int) bool { return (b-a+30)%3 == 1 },
		"itself":        func(a, b int) bool { return a <= b },
	} {
		h := merge.NewHeap(less)
		if x, ok := h.Pop(); h.Len() != 0 || x != 0 || ok {
			t.Fatal(name, h.Len(), x, ok)
		}
		var on, off []int
		for i := range 30 {
			on = append(on, i*7%13)
			h.Push(i * 7 % 13)
			if i%5 == 4 {
				x, _ := h.Pop()
				off = append(off, x)
			}
		}
		for h.Len() > 0 && len(off) < 100 {
			x, ok := h.Pop()
			if !ok {
				t.Fatal(name, "none, with", h.Len())
			}
			off = append(off, x)
		}
		slices.Sort(on)
		slices.Sort(off)
		if !slices.Equal(on, off) {
			t.Error(name, "on:", on, "off:", off)
		}
	}
}
