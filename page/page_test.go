package page_test

import (
	"bytes"
	"math"
	"math/rand"
	"slices"
	"testing"
	"unsafe"

	"flotilla/api"
	"flotilla/page"
)

// 6.3, the rules of memory, and P1

func TestCellsAndPairs(t *testing.T) {
	x := begin(t, 0)
	for _, key := range []string{"m", "\xff", "b", "gone", "a", "ab", "\x00", "B", "gone too", "aa"} {
		x.insert(key, "of "+key)
	}
	x.delete("gone")
	x.delete("gone too")
	wantCells := []string{"m", "\xff", "b", "", "a", "ab", "\x00", "B", "", "aa"}
	cells := x.p.Cells()
	if len(cells) != len(wantCells) {
		t.Fatal("cells:", len(cells))
	}
	for i, key := range wantCells {
		want := api.Cell{Used: true, Key: key, Value: "of " + key}
		if key == "" {
			want = api.Cell{}
		}
		if cells[i] != want {
			t.Errorf("cell %d: %v", i, cells[i])
		}
	}
	wantPairs := []string{"\x00", "B", "a", "aa", "ab", "b", "m", "\xff"}
	pairs := x.p.Pairs()
	if len(pairs) != len(wantPairs) {
		t.Fatal("pairs:", len(pairs))
	}
	for i, key := range wantPairs {
		if pairs[i] != (api.Pair{Key: key, Value: "of " + key}) {
			t.Errorf("pair %d: %q", i, pairs[i])
		}
	}
}

func TestFreeBehindEachStep(t *testing.T) {
	p, _ := page.New(0)
	steps := []struct {
		do   func() api.Errno
		want int
	}{
		{func() api.Errno { return p.Insert("a", "") }, 490},
		{func() api.Errno { return p.Insert("bb", "xyz") }, 480},
		{func() api.Errno { return p.Insert(text(16), text(32)) }, 427},
		{func() api.Errno { return p.Update("a", text(32)) }, 395},
		{func() api.Errno { return p.Update("a", "x") }, 426},
		{func() api.Errno { return p.Delete("bb") }, 432},
		{func() api.Errno { return p.Insert("c", "") }, 430},
		{func() api.Errno { return p.Delete("c") }, 432},
		{func() api.Errno { return p.Delete(text(16)) }, 489},
		{func() api.Errno { return p.Delete("a") }, 496},
	}
	for i, s := range steps {
		if e := s.do(); e != api.OK || p.Free() != s.want {
			t.Errorf("step %d: %d, Free %d, and should be %d", i, e, p.Free(), s.want)
		}
	}
}

func TestClone(t *testing.T) {
	x := begin(t, 9)
	x.stamp(33)
	for _, key := range []string{"a", "b", "c", "d", "e"} {
		x.insert(key, "v")
	}
	x.delete("b")
	x.delete("e")
	y := &both{t, x.p.Clone(), &model{x.m.id, x.m.lsn, slices.Clone(x.m.slots)}}
	if x.p == y.p {
		t.Fatal("the page itself")
	}
	y.check("a clone")
	pages := []*both{x, y}
	for i := range pages {
		one, other := pages[i], pages[1-i]
		for _, step := range []func(){
			func() { one.stamp(uint64(50 + i)) },
			func() { one.update("a", text(5+i)) },
			func() { one.insert("in b's place", text(i)) },
			func() { one.insert("behind", text(1+i)) },
			func() { one.delete("c") },
			func() { one.delete("behind") },
			func() { one.delete("d") },
			func() { one.insert("once more", text(2+i)) },
		} {
			step()
			other.check("the other one")
		}
	}
	z := &both{t, y.p.Clone().Clone(), &model{y.m.id, y.m.lsn, slices.Clone(y.m.slots)}}
	z.check("a clone's clone")
	empty, _ := page.New(2)
	again := empty.Clone()
	again.Insert("a", "x")
	wantPage(t, "an empty one", empty, &model{id: 2})
}

// TestWhatIsToldMayBeWrittenOver has a caller that writes over all that it was told and has handed in.
func TestWhatIsToldMayBeWrittenOver(t *testing.T) {
	x := begin(t, 9)
	x.stamp(33)
	for _, key := range []string{"a", "b", "c", "d"} {
		x.insert(key, "v")
	}
	x.delete("b")
	handed := x.p.Bytes()
	q, e := page.Parse(9, handed)
	if e != api.OK {
		t.Fatal(e)
	}
	y := &both{t, q, &model{x.m.id, x.m.lsn, slices.Clone(x.m.slots)}}
	for range 2 {
		fill(handed, 255)
		for _, z := range []*both{x, y} {
			other := z.p.Bytes()
			fill(z.p.Bytes(), 255)
			cells, pairs := z.p.Cells(), z.p.Pairs()
			fill(z.p.Cells(), api.Cell{Used: true, Key: "mine"})
			fill(z.p.Pairs(), api.Pair{Key: "mine"})
			if !bytes.Equal(other, z.m.bytes()) || !slices.Equal(cells, z.m.slots) || !slices.Equal(pairs, z.m.pairs()) {
				t.Error("two answers share memory")
			}
			z.check("written over")
		}
		x.insert("more", "x")
		y.insert("more", "y")
		x.insert("still more", "x")
		y.delete("d")
	}
}

// fill writes over all that a list has, and over the room behind it.
func fill[T any](l []T, v T) {
	l = l[:cap(l)]
	for i := range l {
		l[i] = v
	}
}

// TestToldBytesStayAsTheyWere has answers that outlive later steps.
func TestToldBytesStayAsTheyWere(t *testing.T) {
	x := begin(t, 9)
	x.insert("a", "1")
	x.insert("b", "2")
	b, cells, pairs := x.p.Bytes(), x.p.Cells(), x.p.Pairs()
	was := slices.Clone(b)
	x.update("a", text(32))
	x.delete("b")
	x.stamp(5)
	x.insert("c", "3")
	if !bytes.Equal(b, was) || !slices.Equal(cells, []api.Cell{{Used: true, Key: "a", Value: "1"}, {Used: true, Key: "b", Value: "2"}}) ||
		!slices.Equal(pairs, []api.Pair{{Key: "a", Value: "1"}, {Key: "b", Value: "2"}}) {
		t.Error("an answer changed:", b, cells, pairs)
	}
}

func TestTextsThatAreHandedInAreNotKept(t *testing.T) {
	p, _ := page.New(0)
	one, two, three := string([]byte("a key")), string([]byte("a value")), string([]byte("another value"))
	p.Insert(one, two)
	told, _ := p.Get(one)
	if unsafe.StringData(told) == unsafe.StringData(two) || unsafe.StringData(p.Cells()[0].Key) == unsafe.StringData(one) {
		t.Error("Insert keeps what it was handed")
	}
	p.Update(one, three)
	told, _ = p.Get(one)
	if unsafe.StringData(told) == unsafe.StringData(three) || unsafe.StringData(p.Cells()[0].Key) == unsafe.StringData(one) {
		t.Error("Update keeps what it was handed")
	}
}

func TestNilPage(t *testing.T) {
	var p *page.Page
	if p.Bytes() != nil || p.ID() != 0 || p.Lsn() != 0 || len(p.Cells()) > 0 || len(p.Pairs()) > 0 || p.Free() != 0 || p.Clone() != nil {
		t.Error("what a nil page tells isn't zero")
	}
	p.Stamp(7)
	if p.Lsn() != 0 {
		t.Error("a nil page was stamped")
	}
	for _, key := range []string{"", "a", text(16), text(17)} {
		for _, value := range []string{"", "x", text(33)} {
			if v, ok := p.Get(key); v != "" || ok {
				t.Error("Get:", v, ok)
			}
			if p.Insert(key, value) != api.ErrArg || p.Update(key, value) != api.ErrArg || p.Delete(key) != api.ErrArg {
				t.Error("no ErrArg of a nil page")
			}
		}
	}
}

// TestNothingPanics calls all there is, at arguments of all sizes (P1).
func TestNothingPanics(t *testing.T) {
	from := rand.New(rand.NewSource(6))
	sizes := []int{0, 1, 2, 16, 17, 32, 33, 255, 256, 257, 511, 512, 513, 1 << 16, 1 << 20}
	for range 3000 {
		b := make([]byte, sizes[from.Intn(len(sizes)-2)])
		from.Read(b)
		if len(b) == 512 {
			b = sealed(b)
		}
		id := from.Intn(20) - 2
		if from.Intn(8) == 0 {
			id = int(from.Uint64())
		}
		p, _ := page.Parse(id, b)
		q, _ := page.New(id)
		for _, p := range []*page.Page{p, q} {
			for range 10 {
				key, value := string(b[:min(len(b), from.Intn(20))]), string(b[:min(len(b), from.Intn(40))])
				p.Insert(key, value)
				p.Update(value, key)
				p.Delete(value)
				p.Get(key)
				p.Stamp(api.Lsn(from.Uint64()))
			}
			p.Bytes()
			p.Cells()
			p.Pairs()
			p.Clone().Free()
		}
	}
	p, _ := page.New(0)
	for _, n := range sizes {
		p.Insert(text(n), "")
		p.Insert("k", text(n))
		p.Update(text(n), text(n))
		p.Delete(text(n))
		p.Get(text(n))
	}
	p.Stamp(math.MaxUint64)
	if len(p.Bytes()) != 512 {
		t.Error("bytes:", len(p.Bytes()))
	}
}
