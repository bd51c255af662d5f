package flush

import (
	"math"
	"slices"
	"testing"

	"croft/api"
	"croft/log"
	"croft/world"
)

func wr(txn, prev, at, cell, was, now int) api.Rec {
	return api.Rec{Kind: api.Write, Txn: txn, Prev: prev, Page: at, Cell: cell, Old: was, New: now}
}

func bk(txn, prev, at, cell, was, now, next int) api.Rec {
	return api.Rec{Kind: api.Back, Txn: txn, Prev: prev, Page: at, Cell: cell, Old: was, New: now, Next: next}
}

func cm(txn, prev int) api.Rec { return api.Rec{Kind: api.Commit, Txn: txn, Prev: prev} }

func en(txn, prev int) api.Rec { return api.Rec{Kind: api.End, Txn: txn, Prev: prev} }

type pages = [api.Pages]api.Page

func page(last, a, b, c int) api.Page { return api.Page{Cells: [api.Cells]int{a, b, c}, Last: last} }

// lab: page 0 was last turned by the record 8, page 1 by the record 2, page 2 by none; six records are safe, and page 0 lies there as it was behind the third.
func lab() api.World {
	return api.World{
		Disk: pages{page(3, 5, 7, 0)},
		Log: []api.Rec{
			wr(1, 0, 0, 0, 0, 5), wr(2, 0, 1, 1, 0, 6), wr(1, 1, 0, 1, 0, 7), cm(2, 2), en(2, 4),
			bk(1, 3, 0, 1, 7, 0, 1), bk(1, 6, 0, 0, 5, 0, 0), wr(3, 0, 0, 0, 0, 8), en(1, 7),
		},
		Safe: 6,
	}
}

func same(a, b api.World) bool {
	return a.Disk == b.Disk && a.Safe == b.Safe && slices.Equal(a.Log, b.Log)
}

// with: that world with another disk, and with so many records safe.
func with(w api.World, disk pages, safe int) api.World {
	return api.World{Disk: disk, Log: w.Log, Safe: safe}
}

func TestH1Sync(t *testing.T) {
	for n := range 10 {
		want := with(lab(), lab().Disk, max(6, n))
		if got, e := Sync(lab(), n); e != api.OK || !same(got, want) {
			t.Errorf("%d: %v %d, and must be %v", n, got, e, want)
		}
	}
	if got, e := Sync(world.Begin(), 0); e != api.OK || !same(got, api.World{}) {
		t.Errorf("in the beginning: %v %d", got, e)
	}
	if got, e := Sync(with(lab(), pages{}, 0), 1); e != api.OK || got.Safe != 1 {
		t.Errorf("the first record: %v %d", got, e)
	}
	full := api.World{Log: writes(60)}
	if got, e := Sync(full, 60); e != api.OK || !same(got, with(full, pages{}, 60)) {
		t.Errorf("a full log: %v %d", got, e)
	}
}

// writes: n records of 1, all of them Writes of one cell.
func writes(n int) []api.Rec {
	var l []api.Rec
	for i := range n {
		l = append(l, wr(1, i, 2, 2, i, i+1))
	}
	return l
}

func TestH1Page(t *testing.T) {
	for name, c := range map[string]struct {
		w    api.World
		page int
		disk pages
		safe int
	}{
		"more is safe then":           {lab(), 0, pages{page(8, 8, 0, 0)}, 8},
		"as much is safe then":        {lab(), 1, pages{page(3, 5, 7, 0), page(2, 0, 6, 0)}, 6},
		"a page that nothing turned":  {lab(), 2, lab().Disk, 6},
		"just so much is safe":        {with(lab(), pages{}, 2), 1, pages{1: page(2, 0, 6, 0)}, 2},
		"a record less is safe":       {with(lab(), pages{}, 1), 1, pages{1: page(2, 0, 6, 0)}, 2},
		"nothing is safe":             {with(lab(), pages{}, 0), 0, pages{page(8, 8, 0, 0)}, 8},
		"nothing is safe or turned":   {with(lab(), pages{}, 0), 2, pages{}, 0},
		"all is safe":                 {with(lab(), pages{}, 9), 0, pages{page(8, 8, 0, 0)}, 9},
		"it lies there so":            {with(lab(), pages{page(8, 8, 0, 0)}, 8), 0, pages{page(8, 8, 0, 0)}, 8},
		"noughts, taken back":         {with(cut(7), pages{page(3, 5, 7, 0)}, 3), 0, pages{page(7, 0, 0, 0)}, 7},
		"the beginning":               {world.Begin(), 0, pages{}, 0},
		"the last page of a full log": {api.World{Log: writes(60)}, 2, pages{2: page(60, 0, 0, 60)}, 60},
	} {
		got, e := Page(c.w, c.page)
		if want := with(c.w, c.disk, c.safe); e != api.OK || !same(got, want) {
			t.Errorf("%s: %v %d, and must be %v", name, got, e, want)
		}
	}
}

// cut: the lab's log, cut to n records, with nothing safe.
func cut(n int) api.World { return api.World{Log: lab().Log[:n]} }

func TestH1P1IsRefused(t *testing.T) {
	for name, c := range map[string]struct {
		w          api.World
		sync, page int
		want       api.Errno
	}{
		"below":                  {lab(), -1, -1, api.ErrRange},
		"far below":              {lab(), math.MinInt, math.MinInt, api.ErrRange},
		"just above":             {lab(), 10, 3, api.ErrRange},
		"far above":              {lab(), math.MaxInt, math.MaxInt, api.ErrRange},
		"above, in the begin":    {world.Begin(), 1, 3, api.ErrRange},
		"above, of a full log":   {api.World{Log: writes(60)}, 61, 60, api.ErrRange},
		"what the whole log had": {cut(5), 9, 5, api.ErrRange},

		"the log's many, with right numbers": {api.World{Log: make([]api.Rec, 61)}, 0, 0, api.ErrMany},
		"the log's many, ahead of range":     {api.World{Log: make([]api.Rec, 61)}, -1, -1, api.ErrMany},
		"the log's kind, ahead of range":     {api.World{Log: make([]api.Rec, 1)}, -1, 3, api.ErrKind},
		"the log's form, ahead of range":     {api.World{Log: lab().Log[1:]}, 99, 3, api.ErrForm},
		"Safe, with right numbers":           {with(lab(), pages{}, 10), 9, 0, api.ErrRange},
		"Safe below, with right numbers":     {with(lab(), pages{}, -1), 9, 0, api.ErrRange},
		"the disk's form, which would go":    {with(lab(), pages{page(3, 5, 7, 1)}, 6), 9, 0, api.ErrForm},
		"the disk's form, ahead of range":    {with(lab(), pages{page(3, 5, 7, 0)}, 2), 99, 3, api.ErrForm},
	} {
		if got, e := Sync(c.w, c.sync); e != c.want || !same(got, api.World{}) {
			t.Errorf("%s: Sync is %v %d, and must be %d", name, got, e, c.want)
		}
		if got, e := Page(c.w, c.page); e != c.want || !same(got, api.World{}) {
			t.Errorf("%s: Page is %v %d, and must be %d", name, got, e, c.want)
		}
	}
}

func TestH2NothingLiesThereThatTheSafeLogDoesNotTellOf(t *testing.T) {
	for n := range len(lab().Log) + 1 {
		for at := range api.Pages {
			w, e := Page(cut(n), at)
			if e != api.OK || world.Check(w) != api.OK {
				t.Errorf("page %d behind %d records: %v %d, and that is %d", at, n, w, e, world.Check(w))
			}
			told, e := log.Pages(w.Log[:w.Safe])
			if told[at] != w.Disk[at] || e != api.OK {
				t.Errorf("page %d behind %d records: %v lies there, the safe log tells %v", at, n, w.Disk[at], told[at])
			}
		}
	}
}

// calls: both calls, as they turn something in the lab.
func calls() []func(w api.World) (api.World, api.Errno) {
	return []func(w api.World) (api.World, api.Errno){
		func(w api.World) (api.World, api.Errno) { return Sync(w, 9) },
		func(w api.World) (api.World, api.Errno) { return Page(w, 0) },
	}
}

func TestH1P2OnlyRead(t *testing.T) {
	for i, call := range calls() {
		room := append(lab().Log, cm(9, 0), en(9, 10))
		was := slices.Clone(room)
		w := with(lab(), lab().Disk, 6)
		w.Log = room[:9]
		got, e := call(w)
		for n := range got.Log {
			got.Log[n].New = 50
		}
		_ = append(got.Log, api.Rec{Kind: 50}, api.Rec{Kind: 50})
		if e != api.OK || !slices.Equal(room, was) || w.Disk != lab().Disk || w.Safe != 6 {
			t.Errorf("call %d: %d; what was handed in was changed: %v, %v", i, e, w, room)
		}
		got, _ = call(w)
		clear(room)
		if !slices.Equal(got.Log, lab().Log) {
			t.Errorf("call %d: a later change is seen: %v", i, got.Log)
		}
	}
}

func TestH1P3TheSameAgain(t *testing.T) {
	for i, call := range calls() {
		first, _ := call(lab())
		for range 3 {
			Sync(lab(), 7)
			Page(first, 1)
			if got, e := call(lab()); e != api.OK || !same(got, first) {
				t.Errorf("call %d was %v, and is %v %d", i, first, got, e)
			}
		}
	}
}
