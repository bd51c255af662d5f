package log

import (
	"math"
	"testing"

	"croft/api"
	"croft/rec"
)

// Here the chapter's words are told a second time, plainly: each record looks through all that is ahead of it. What the program tells is held against it.

// pagesOf: the pages behind the first n records.
func pagesOf(l []api.Rec, n int) [api.Pages]api.Page {
	var p [api.Pages]api.Page
	for i, r := range l[:n] {
		if r.Kind == api.Write || r.Kind == api.Back {
			p[r.Page].Cells[r.Cell] = r.New
			p[r.Page].Last = i + 1
		}
	}
	return p
}

func has(ahead []api.Rec, txn, kind int) bool {
	for _, r := range ahead {
		if r.Txn == txn && r.Kind == kind {
			return true
		}
	}
	return false
}

func lastOf(ahead []api.Rec, txn int) int {
	last := 0
	for i, r := range ahead {
		if r.Txn == txn {
			last = i + 1
		}
	}
	return last
}

// standing: the Writes of the Txn that stand. (Of Backs each takes one.)
func standing(ahead []api.Rec, txn int) []api.Rec {
	var w []api.Rec
	if has(ahead, txn, api.End) {
		return nil
	}
	for _, r := range ahead {
		if r.Txn == txn && r.Kind == api.Write {
			w = append(w, r)
		}
		if r.Txn == txn && r.Kind == api.Back {
			w = w[:len(w)-1]
		}
	}
	return w
}

func rightBehind(ahead []api.Rec, r api.Rec) bool {
	w := standing(ahead, r.Txn)
	if r.Prev != lastOf(ahead, r.Txn) || has(ahead, r.Txn, api.End) {
		return false
	}
	if has(ahead, r.Txn, api.Commit) && r.Kind != api.End {
		return false
	}
	if has(ahead, r.Txn, api.Back) && r.Kind != api.Back && r.Kind != api.End {
		return false
	}
	switch r.Kind {
	case api.Write:
		if pagesOf(ahead, len(ahead))[r.Page].Cells[r.Cell] != r.Old {
			return false
		}
		for txn := 1; txn <= api.MaxTxns; txn++ {
			for _, x := range standing(ahead, txn) {
				if txn != r.Txn && x.Page == r.Page && x.Cell == r.Cell {
					return false
				}
			}
		}
	case api.Back:
		if len(w) == 0 {
			return false
		}
		x := w[len(w)-1]
		return r.Page == x.Page && r.Cell == x.Cell && r.Old == x.New && r.New == x.Old && r.Next == x.Prev
	case api.End:
		return has(ahead, r.Txn, api.Commit) || has(ahead, r.Txn, api.Back) && len(w) == 0
	}
	return true
}

func plainCheck(l []api.Rec) api.Errno {
	if len(l) > api.MaxLog {
		return api.ErrMany
	}
	for i, r := range l {
		if e := rec.Check(i+1, r); e != api.OK {
			return e
		}
		if !rightBehind(l[:i], r) {
			return api.ErrForm
		}
	}
	return api.OK
}

func plainState(l []api.Rec, txn int) int {
	switch {
	case has(l, txn, api.End):
		return 4
	case has(l, txn, api.Back):
		return 3
	case has(l, txn, api.Commit):
		return 2
	case has(l, txn, api.Write):
		return 1
	}
	return 0
}

// holdAgainst: are all three calls as the plain telling is?
func holdAgainst(t *testing.T, l []api.Rec) bool {
	t.Helper()
	want := plainCheck(l)
	if e := Check(l); e != want {
		t.Fatalf("Check(%v) is %d, and must be %d", l, e, want)
	}
	var pages [api.Pages]api.Page
	if want == api.OK {
		pages = pagesOf(l, len(l))
	}
	if p, e := Pages(l); p != pages || e != want {
		t.Fatalf("Pages(%v) is %v %d, and must be %v %d", l, p, e, pages, want)
	}
	for txn := 1; txn <= api.MaxTxns; txn++ {
		state, last := 0, 0
		if want == api.OK {
			state, last = plainState(l, txn), lastOf(l, txn)
		}
		if s, n, e := State(l, txn); s != state || n != last || e != want {
			t.Fatalf("State(%v, %d) is %d %d %d, and must be %d %d %d", l, txn, s, n, e, state, last, want)
		}
	}
	return want == api.OK
}

// small: all records of two Txns, two cells and two values that could be the record n.
func small(n int) []api.Rec {
	var all []api.Rec
	for txn := 1; txn <= 2; txn++ {
		for prev := range n {
			all = append(all, cm(txn, prev), en(txn, prev))
			for x := range 8 {
				cell, was, now := x&1, x>>1&1, x>>2&1
				all = append(all, wr(txn, prev, 0, cell, was, now))
				for next := range n {
					all = append(all, bk(txn, prev, 0, cell, was, now, next))
				}
			}
		}
	}
	return all
}

func TestC1C2AllSmallLogs(t *testing.T) {
	right := 0
	var grow func(l []api.Rec)
	grow = func(l []api.Rec) {
		right++
		if len(l) == 4 {
			return
		}
		for _, r := range small(len(l) + 1) {
			if more := behind(l, r); holdAgainst(t, more) {
				grow(more)
			}
		}
	}
	grow(nil)
	if right < 1000 {
		t.Errorf("of the small logs only %d are right", right)
	}
}

// draw: numbers that are the same each time.
type draw uint64

func (d *draw) n(n int) int {
	*d = *d*6364136223846793005 + 1442695040888963407
	return int(uint64(*d) >> 33 % uint64(n))
}

// grown: a right log of many records, as the draw has it.
func grown(d *draw, size int) []api.Rec {
	var l []api.Rec
	for tries := 0; len(l) < size && tries < 20*size; tries++ {
		txn := 1 + d.n(api.MaxTxns)
		r := api.Rec{Kind: 1 + d.n(4), Txn: txn, Prev: lastOf(l, txn)}
		w := standing(l, txn)
		switch {
		case r.Kind == api.Write:
			r.Page, r.Cell, r.New = d.n(api.Pages), d.n(api.Cells), d.n(api.MaxVal+1)
			r.Old = pagesOf(l, len(l))[r.Page].Cells[r.Cell]
		case r.Kind == api.Back && len(w) > 0:
			x := w[len(w)-1]
			r = bk(txn, r.Prev, x.Page, x.Cell, x.New, x.Old, x.Prev)
		}
		if rightBehind(l, r) {
			l = append(l, r)
		}
	}
	return l
}

// field: the number i of the record.
func field(r *api.Rec, i int) *int {
	return []*int{&r.Kind, &r.Txn, &r.Prev, &r.Page, &r.Cell, &r.Old, &r.New, &r.Next}[i]
}

func TestC1C2GrownLogsWithOneNumberTurned(t *testing.T) {
	d := draw(7)
	for range 300 {
		l := grown(&d, 1+d.n(api.MaxLog))
		if !holdAgainst(t, l) {
			t.Fatalf("%v is not right", l)
		}
		for range 20 {
			x := field(&l[d.n(len(l))], d.n(8))
			was := *x
			*x = []int{was + 1, was - 1, 0, d.n(5), d.n(len(l)), d.n(101), math.MinInt, math.MaxInt}[d.n(8)]
			holdAgainst(t, l)
			*x = was
		}
	}
}

func TestC1WhatTheWholePromises(t *testing.T) {
	d := draw(11)
	for range 60 {
		l := grown(&d, api.MaxLog)
		for n := range len(l) + 1 {
			if e := Check(l[:n]); e != api.OK {
				t.Fatalf("%v cut to %d records is not right: %d", l, n, e)
			}
			heldByOne(t, l[:n])
		}
		turnedNothing(t, l)
	}
}

// heldByOne: no two Txns that are not over have Writes of one cell that stand.
func heldByOne(t *testing.T, l []api.Rec) {
	t.Helper()
	var by [api.Pages][api.Cells]int
	for txn := 1; txn <= api.MaxTxns; txn++ {
		for _, w := range standing(l, txn) {
			if other := by[w.Page][w.Cell]; other != 0 && other != txn {
				t.Fatalf("%v: %d and %d have one cell", l, other, txn)
			}
			by[w.Page][w.Cell] = txn
		}
	}
}

// turnedNothing: without the records of those that are over without a Commit the cells are the same.
func turnedNothing(t *testing.T, l []api.Rec) {
	t.Helper()
	var rest []api.Rec
	for _, r := range l {
		if s, _, _ := State(l, r.Txn); s != 4 || has(l, r.Txn, api.Commit) {
			rest = append(rest, r)
		}
	}
	all, _ := Pages(l)
	left := pagesOf(rest, len(rest))
	for i := range all {
		if all[i].Cells != left[i].Cells {
			t.Fatalf("%v: page %d is %v, and without those %v", l, i, all[i].Cells, left[i].Cells)
		}
	}
}
