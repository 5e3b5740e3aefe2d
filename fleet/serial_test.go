package fleet_test

import (
	"cmp"
	"fmt"
	"maps"
	"slices"
	"strconv"

	"flotilla/api"
)

// What clients were told, held against what they would be told one behind the other (21.4, 21.8, 21.9).

// cell is what a table has of a key, and the number of who wrote it (or deleted it).
type cell struct {
	value string
	is    bool
	by    api.Lsn
}

// mere is a table in which one works behind the other.
type mere struct{ cells map[string]cell }

func (m mere) clone() mere { return mere{maps.Clone(m.cells)} }

func (m mere) pairs(from, to string) []api.Pair {
	var l []api.Pair
	for _, k := range slices.Sorted(maps.Keys(m.cells)) {
		if m.cells[k].is && k >= from && k <= to {
			l = append(l, api.Pair{Key: k, Value: m.cells[k].value})
		}
	}
	return l
}

// replay does what a transaction did, and tells what it should have been told where it was told something else.
func (m mere) replay(d *deal) string {
	var saves []map[string]cell
	own := d.place()
	for _, x := range d.said {
		s, a := x.step, x.answer
		want := api.Answer{Step: x.no, Kind: api.ReplyOK, Lsn: a.Lsn}
		c := m.cells[s.Key]
		if x.refused {
			continue
		}
		if isTold(s.Kind) && s.Kind != api.StepScan && c.by >= a.Lsn && c.by != own {
			return fmt.Sprint(s, " has seen ", c.by, " at ", a.Lsn)
		}
		switch s.Kind {
		case api.StepGet:
			want.Kind, want.Value = api.ReplyNone, ""
			if c.is {
				want.Kind, want.Value = api.ReplyValue, c.value
			}
		case api.StepScan:
			want.Kind, want.Pairs = api.ReplyPairs, m.pairs(s.Key, s.Value)
			for k, c := range m.cells {
				if k >= s.Key && k <= s.Value && c.by >= a.Lsn && c.by != own {
					return fmt.Sprint(s, " has seen ", c.by, " at ", a.Lsn)
				}
			}
		case api.StepInsert, api.StepPut:
			if c.is && s.Kind == api.StepInsert {
				want.Kind = api.ReplyTwice
			} else if a.Kind == api.ReplyFull || a.Kind == api.ReplyLogFull {
				want.Kind = a.Kind
			} else {
				m.cells[s.Key] = cell{s.Value, true, own}
			}
		case api.StepDelete:
			if !c.is {
				want.Kind = api.ReplyNone
			} else if a.Kind == api.ReplyLogFull {
				want.Kind = a.Kind
			} else {
				m.cells[s.Key] = cell{"", false, own}
			}
		case api.StepSave:
			if len(saves) == api.MaxSave {
				want.Kind = api.ReplyBad
			} else if a.Kind == api.ReplyLogFull {
				want.Kind = a.Kind
			} else {
				want.Value = strconv.Itoa(len(saves))
				saves = append(saves, maps.Clone(m.cells))
			}
		case api.StepBack:
			if s.N < 0 || s.N >= len(saves) {
				want.Kind = api.ReplyBad
			} else {
				saves = saves[:s.N+1]
				clear(m.cells)
				maps.Copy(m.cells, saves[s.N])
			}
		}
		if len(a.Pairs) == 0 {
			a.Pairs = nil
		}
		if !same(a, want) {
			return fmt.Sprintf("%+v: %+v, want %+v", s, a, want)
		}
	}
	return ""
}

// line is the transactions that stand somewhere, by rising place.
func (w *world) line() []*deal {
	var l []*deal
	for _, d := range w.deals {
		if d.fate == committed || d.fate == backed || w.inDoubt(d) {
			l = append(l, d)
		}
	}
	slices.SortStableFunc(l, func(a, b *deal) int { return cmp.Compare(a.place(), b.place()) })
	return l
}

// inDoubt tells whether one may have committed or not: its instance crashed, or it waits still.
func (w *world) inDoubt(d *deal) bool {
	x := w.seats[d.inst][d.sess]
	return d.fate == doubtful || x.deal == d && x.waits && x.waiting.Kind == api.StepCommit
}

// walk goes on with those who stand behind others, those in doubt committed or not: "" if all were told what they should have been, and the table may have at last what it does.
func (w *world) walk(m mere, l []*deal, last func(m mere) string) string {
	for n, d := range l {
		next := m.clone()
		why := next.replay(d)
		if w.inDoubt(d) {
			if why == "" && w.walk(next, l[n+1:], last) == "" {
				return ""
			}
			continue
		}
		if why != "" {
			return fmt.Sprintf("session %d.%d, begun at %d: %s", d.inst, d.sess, d.began, why)
		}
		if d.fate == committed {
			m = next
		}
	}
	return last(m)
}

// serial holds all that was told, and what there is in the end, against what is told one behind the other.
func (w *world) serial() {
	w.t.Helper()
	w.serially(func(m mere) string {
		if got, has := w.f.Map(), m.pairs("", "\xff\xff"); !slices.Equal(got, has) {
			return fmt.Sprintf("Map is %q, want %q", got, has)
		}
		return ""
	})
}

// midway holds all that was told so far against what is told one behind the other.
func (w *world) midway() {
	w.t.Helper()
	w.serially(func(mere) string { return "" })
}

func (w *world) serially(last func(m mere) string) {
	w.t.Helper()
	l := w.line()
	if why := w.walk(mere{map[string]cell{}}, l, last); why != "" {
		w.fail(why)
	}
	w.numbers()
	w.behind(l)
}

// numbers: no two transactions have the same (21.4).
func (w *world) numbers() {
	w.t.Helper()
	come := map[api.Lsn]bool{}
	for _, d := range w.deals {
		if d.fate == committed && (d.own == 0 || come[d.own]) {
			w.fail("a number twice, or none:", d.own)
		}
		come[d.own] = true
	}
}

// behind: who began when another one had been told that it committed stands behind it (21.8).
func (w *world) behind(l []*deal) {
	w.t.Helper()
	for _, a := range l {
		for _, b := range l {
			if a.fate == committed && a.over < b.began && b.was && b.place() <= a.place() {
				w.fail("session", b.inst, b.sess, "began at", b.began, "and stands at", b.place(), "ahead of", a.place(), "told at", a.over)
			}
		}
	}
}
