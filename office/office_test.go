package office

import (
	"slices"
	"testing"

	"croft/api"
)

func two() api.World {
	return api.World{
		Disk: [api.Pages]api.Page{{Cells: [api.Cells]int{5, 0, 0}, Last: 1}},
		Log:  []api.Rec{{Kind: api.Write, Txn: 1, New: 5}, {Kind: api.Write, Txn: 1, Prev: 1, Cell: 1, New: 6}},
		Safe: 1,
	}
}

func TestE1TheDeskHasWhatTheBookHas(t *testing.T) {
	d, e := Open(two())
	if e != api.OK {
		t.Fatal(e)
	}
	if d.Size != 2 || d.Txns[1].Last != 2 || d.Pages[0].Cells[1] != 6 || len(d.Holds) != 2 || d.Disk != two().Disk || d.Safe != 1 {
		t.Errorf("the desk is %+v, its book %+v", d, d.Book)
	}
	if d, e := Open(api.World{Safe: 1}); d != nil || e != api.ErrRange {
		t.Errorf("there is a desk: %v %d", d, e)
	}
}

func TestF1AddPutsIntoTheBookAndTheLog(t *testing.T) {
	d, _ := Open(two())
	if e := d.Add(api.Rec{Kind: api.End, Txn: 1, Prev: 2}); e != api.ErrForm || d.Size != 2 || len(d.Log) != 2 {
		t.Errorf("what may not be is added: %d, %+v", e, d)
	}
	r := api.Rec{Kind: api.Commit, Txn: 1, Prev: 2}
	if e := d.Add(r); e != api.OK || d.Size != 3 || !slices.Equal(d.Log, append(two().Log, r)) {
		t.Errorf("it is %d, %+v", e, d)
	}
}

func TestF1Room(t *testing.T) {
	d, _ := Open(two())
	if !d.Room(1) || !d.Room(58) || d.Room(59) {
		t.Errorf("of two records: %v %v %v", d.Room(1), d.Room(58), d.Room(59))
	}
}

func TestP1WithAnErrorThereIsNoWorld(t *testing.T) {
	done := 0
	turn := func(e api.Errno) func(d *Desk) api.Errno {
		return func(d *Desk) api.Errno { done++; d.Safe = 2; return e }
	}
	if w, e := Do(two(), turn(api.OK)); e != api.OK || w.Safe != 2 || len(w.Log) != 2 || w.Disk != two().Disk {
		t.Errorf("it is %v %d", w, e)
	}
	if w, e := Do(two(), turn(api.ErrBusy)); e != api.ErrBusy || w.Safe != 0 || len(w.Log) != 0 || w.Disk != (api.World{}).Disk {
		t.Errorf("with the job's error: %v %d", w, e)
	}
	if w, e := Do(api.World{Safe: 1}, turn(api.OK)); e != api.ErrRange || w.Safe != 0 || done != 2 {
		t.Errorf("with the world's error: %v %d, %d jobs are done", w, e, done)
	}
}

func TestP2TheWorldIsNewMemory(t *testing.T) {
	w := two()
	got, _ := Do(w, func(d *Desk) api.Errno { return api.OK })
	w.Log[0].New = 50
	if !slices.Equal(got.Log, two().Log) {
		t.Errorf("it shares the log's memory: %v", got.Log)
	}
}

func TestH1WhatWasSafeStaysSo(t *testing.T) {
	d, _ := Open(two())
	for _, c := range []struct{ n, want int }{{0, 1}, {1, 1}, {2, 2}, {1, 2}, {0, 2}} {
		if d.Secure(c.n); d.Safe != c.want {
			t.Errorf("%d: %d are safe, and must be %d", c.n, d.Safe, c.want)
		}
	}
}

func TestH1H2ManyPagesAreLaid(t *testing.T) {
	w := api.World{Log: []api.Rec{
		{Kind: api.Write, Txn: 1, Page: 2, New: 5}, {Kind: api.Write, Txn: 1, Prev: 1, New: 6},
		{Kind: api.Write, Txn: 1, Prev: 2, Page: 1, New: 7}, {Kind: api.Commit, Txn: 1, Prev: 3},
	}}
	for _, c := range []struct {
		pages []int
		safe  int
	}{
		{nil, 0}, {[]int{2}, 1}, {[]int{0}, 2}, {[]int{0, 2}, 2}, {[]int{2, 0}, 2}, {[]int{1, 2}, 3}, {[]int{0, 1, 2}, 3}, {[]int{2, 2}, 1},
	} {
		d, _ := Open(w)
		var want [api.Pages]api.Page
		for _, at := range c.pages {
			want[at] = d.Pages[at]
		}
		if e := d.Lay(c.pages...); e != api.OK || d.Disk != want || d.Safe != c.safe {
			t.Errorf("%v: %d; %v lie there, %d are safe, and %v and %d must", c.pages, e, d.Disk, d.Safe, want, c.safe)
		}
	}
	d, _ := Open(w)
	for _, pages := range [][]int{{-1}, {3}, {0, 1, 3}, {2, -1, 0}} {
		if e := d.Lay(pages...); e != api.ErrRange || d.Disk != w.Disk || d.Safe != 0 {
			t.Errorf("%v: %d; %v lie there, %d are safe", pages, e, d.Disk, d.Safe)
		}
	}
}
