package act

import (
	"math"
	"slices"
	"testing"

	"croft/api"
	"croft/flush"
	"croft/mend"
	"croft/roll"
	"croft/work"
	"croft/world"
)

func wr(txn, prev, at, cell, was, now int) api.Rec {
	return api.Rec{Kind: api.Write, Txn: txn, Prev: prev, Page: at, Cell: cell, Old: was, New: now}
}

func bk(txn, prev, at, cell, was, now, next int) api.Rec {
	return api.Rec{Kind: api.Back, Txn: txn, Prev: prev, Page: at, Cell: cell, Old: was, New: now, Next: next}
}

func cm(txn, prev int) api.Rec { return api.Rec{Kind: api.Commit, Txn: txn, Prev: prev} }

func en(txn, prev int) api.Rec { return api.Rec{Kind: api.End, Txn: txn, Prev: prev} }

type pages = [api.Pages]api.Page

func page(last, a, b, c int) api.Page { return api.Page{Cells: [api.Cells]int{a, b, c}, Last: last} }

func same(a, b api.World) bool {
	return a.Disk == b.Disk && a.Safe == b.Safe && slices.Equal(a.Log, b.Log)
}

// lab: 2 has won; 1 and 3 hang, and 3 is not safe.
func lab() api.World {
	return api.World{
		Disk: pages{1: page(2, 0, 6, 0)},
		Log:  []api.Rec{wr(1, 0, 0, 0, 0, 5), wr(2, 0, 1, 1, 0, 6), cm(2, 2), en(2, 3), wr(3, 0, 2, 2, 0, 8)},
		Safe: 4,
	}
}

// and: the lab with these records behind all.
func and(l ...api.Rec) []api.Rec { return append(lab().Log, l...) }

func TestK1Do(t *testing.T) {
	for name, c := range map[string]struct {
		x    api.Act
		want api.World
	}{
		"write":                 {api.Act{Kind: api.ActWrite, Txn: 1, Page: 0, Cell: 2, Val: 99}, api.World{Disk: lab().Disk, Log: and(wr(1, 1, 0, 2, 0, 99)), Safe: 4}},
		"write, of a new Txn":   {api.Act{Kind: api.ActWrite, Txn: 9, Page: 1, Cell: 1, Val: 7}, api.World{Disk: lab().Disk, Log: and(wr(9, 0, 1, 1, 6, 7)), Safe: 4}},
		"commit":                {api.Act{Kind: api.ActCommit, Txn: 3}, api.World{Disk: lab().Disk, Log: and(cm(3, 5), en(3, 6)), Safe: 6}},
		"abort":                 {api.Act{Kind: api.ActAbort, Txn: 1}, api.World{Disk: lab().Disk, Log: and(bk(1, 1, 0, 0, 5, 0, 0), en(1, 6)), Safe: 4}},
		"sync":                  {api.Act{Kind: api.ActSync, Val: 5}, api.World{Disk: lab().Disk, Log: lab().Log, Safe: 5}},
		"sync, what was safe":   {api.Act{Kind: api.ActSync, Val: 2}, lab()},
		"flush":                 {api.Act{Kind: api.ActFlush, Page: 2}, api.World{Disk: pages{1: page(2, 0, 6, 0), 2: page(5, 0, 0, 8)}, Log: lab().Log, Safe: 5}},
		"flush, what lay there": {api.Act{Kind: api.ActFlush, Page: 1}, lab()},
		"crash":                 {api.Act{Kind: api.ActCrash}, api.World{Disk: pages{page(5, 0, 0, 0), page(2, 0, 6, 0)}, Log: append(lab().Log[:4], bk(1, 1, 0, 0, 5, 0, 0), en(1, 5)), Safe: 6}},
	} {
		got, e := Do(lab(), c.x)
		if e != api.OK || !same(got, c.want) || world.Check(got) != api.OK {
			t.Errorf("%s: %v %d, and must be %v", name, got, e, c.want)
		}
	}
}

// noise: the act, with all the numbers that count for nothing in its kind turned to n.
func noise(x api.Act, n int) api.Act {
	y := api.Act{Kind: x.Kind, Txn: n, Page: n, Cell: n, Val: n}
	switch x.Kind {
	case api.ActWrite:
		return x
	case api.ActCommit, api.ActAbort:
		y.Txn = x.Txn
	case api.ActSync:
		y.Val = x.Val
	case api.ActFlush:
		y.Page = x.Page
	}
	return y
}

func TestK1WhatIsNotNamedCountsForNothing(t *testing.T) {
	for _, x := range []api.Act{{Kind: api.ActCommit, Txn: 1}, {Kind: api.ActAbort, Txn: 3}, {Kind: api.ActSync, Val: 5}, {Kind: api.ActFlush}, {Kind: api.ActCrash}} {
		want, e := Do(lab(), x)
		if e != api.OK {
			t.Errorf("%v: %d", x, e)
		}
		for _, n := range []int{-1, 1, 4, 99, 100, math.MinInt, math.MaxInt} {
			if got, e := Do(lab(), noise(x, n)); e != api.OK || !same(got, want) {
				t.Errorf("%v: %v %d, and must be %v", noise(x, n), got, e, want)
			}
		}
	}
}

func TestK1P1DoIsRefused(t *testing.T) {
	for _, c := range []struct {
		x    api.Act
		want api.Errno
	}{
		{api.Act{}, api.ErrKind}, {api.Act{Kind: 7}, api.ErrKind}, {api.Act{Kind: -1, Txn: 1}, api.ErrKind},
		{api.Act{Kind: math.MinInt}, api.ErrKind}, {api.Act{Kind: math.MaxInt, Txn: 99}, api.ErrKind},
		{api.Act{Kind: api.ActWrite}, api.ErrRange}, {api.Act{Kind: api.ActWrite, Txn: 10}, api.ErrRange},
		{api.Act{Kind: api.ActWrite, Txn: 1, Page: 3}, api.ErrRange}, {api.Act{Kind: api.ActWrite, Txn: 1, Cell: -1}, api.ErrRange},
		{api.Act{Kind: api.ActWrite, Txn: 1, Val: 100}, api.ErrRange},
		{api.Act{Kind: api.ActWrite, Txn: 2}, api.ErrOver}, {api.Act{Kind: api.ActWrite, Txn: 3}, api.ErrBusy},
		{api.Act{Kind: api.ActCommit}, api.ErrRange}, {api.Act{Kind: api.ActCommit, Txn: 4}, api.ErrNone}, {api.Act{Kind: api.ActCommit, Txn: 2}, api.ErrOver},
		{api.Act{Kind: api.ActAbort, Txn: 10}, api.ErrRange}, {api.Act{Kind: api.ActAbort, Txn: 9}, api.ErrNone}, {api.Act{Kind: api.ActAbort, Txn: 2}, api.ErrOver},
		{api.Act{Kind: api.ActSync, Val: 6}, api.ErrRange}, {api.Act{Kind: api.ActSync, Val: -1}, api.ErrRange},
		{api.Act{Kind: api.ActFlush, Page: 3}, api.ErrRange}, {api.Act{Kind: api.ActFlush, Page: -1}, api.ErrRange},
	} {
		if got, e := Do(lab(), c.x); e != c.want || !same(got, api.World{}) {
			t.Errorf("%v: %v %d, and must be %d", c.x, got, e, c.want)
		}
	}
}

func TestK1P1DoOfWhatIsNoRightWorld(t *testing.T) {
	for name, c := range map[string]struct {
		w    api.World
		want api.Errno
	}{
		"the log's many":  {api.World{Log: make([]api.Rec, 61)}, api.ErrMany},
		"the log's kind":  {api.World{Log: make([]api.Rec, 1)}, api.ErrKind},
		"the log's range": {api.World{Log: and(cm(10, 0))}, api.ErrRange},
		"the log's form":  {api.World{Log: and(en(1, 1))}, api.ErrForm},
		"Safe":            {api.World{Safe: 1}, api.ErrRange},
		"the disk":        {api.World{Disk: pages{page(0, 1, 0, 0)}}, api.ErrForm},
	} {
		for kind := api.ActWrite; kind <= api.ActCrash; kind++ {
			if got, e := Do(c.w, api.Act{Kind: kind, Txn: 99, Page: 99, Val: -1}); e != c.want || !same(got, api.World{}) {
				t.Errorf("%s, %d: %v %d, and must be %d", name, kind, got, e, c.want)
			}
		}
		for _, kind := range []int{0, 7, -1} {
			if got, e := Do(c.w, api.Act{Kind: kind}); e != api.ErrKind || !same(got, api.World{}) {
				t.Errorf("%s: of no kind: %v %d", name, got, e)
			}
		}
	}
}

func TestK1AllExampleOfTheDocument(t *testing.T) {
	w, n, e := All([]api.Act{
		{Kind: api.ActWrite, Txn: 1, Val: 5}, {Kind: api.ActFlush}, {Kind: api.ActWrite, Txn: 2, Val: 6},
		{Kind: api.ActWrite, Txn: 2, Page: 1, Cell: 2, Val: 7}, {Kind: api.ActCommit, Txn: 2}, {Kind: api.ActCrash},
	})
	want := api.World{
		Disk: pages{page(5, 0, 0, 0), page(2, 0, 0, 7)},
		Log:  []api.Rec{wr(1, 0, 0, 0, 0, 5), wr(2, 0, 1, 2, 0, 7), cm(2, 2), en(2, 3), bk(1, 1, 0, 0, 5, 0, 0), en(1, 5)},
		Safe: 6,
	}
	if e != api.OK || n != 5 || !same(w, want) {
		t.Errorf("%v %d %d, and must be %v 5", w, n, e, want)
	}
}

func TestK1AllIsDoOneBehindTheOther(t *testing.T) {
	l := []api.Act{
		{Kind: api.ActCrash}, {Kind: api.ActWrite, Txn: 1, Val: 5}, {}, {Kind: api.ActWrite, Txn: 2, Val: 6}, {Kind: api.ActSync, Val: 2},
		{Kind: api.ActSync, Val: 1}, {Kind: api.ActWrite, Txn: 3, Page: 2, Val: 9}, {Kind: api.ActCommit, Txn: 3}, {Kind: api.ActAbort, Txn: 3},
		{Kind: 7}, {Kind: api.ActAbort, Txn: 1}, {Kind: api.ActWrite, Txn: 2, Val: 6}, {Kind: api.ActFlush}, {Kind: api.ActCrash}, {Kind: api.ActCommit, Txn: 2},
	}
	refused := []bool{2: true, 3: true, 4: true, 8: true, 9: true, 14: true}
	w, done := world.Begin(), 0
	for i, x := range l {
		got, n, e := All(l[:i])
		if e != api.OK || n != done || !same(got, w) {
			t.Fatalf("the first %d: %v %d %d, and must be %v %d", i, got, n, e, w, done)
		}
		next, e := Do(w, x)
		if (e != api.OK) != refused[i] {
			t.Fatalf("%v is %d", x, e)
		}
		if e == api.OK {
			w, done = next, done+1
		}
	}
	if got, n, e := All(l); e != api.OK || n != done || n != 9 || !same(got, w) {
		t.Errorf("all: %v %d %d, and must be %v %d", got, n, e, w, done)
	}
}

func TestK1AllHowMany(t *testing.T) {
	write := api.Act{Kind: api.ActWrite, Txn: 1, Val: 1}
	for _, c := range []struct {
		l       []api.Act
		records int
		done    int
		want    api.Errno
	}{
		{nil, 0, 0, api.OK}, {[]api.Act{}, 0, 0, api.OK}, {make([]api.Act, 60), 0, 0, api.OK}, {make([]api.Act, 61), 0, 0, api.ErrMany},
		{slices.Repeat([]api.Act{write}, 60), 60, 60, api.OK}, {slices.Repeat([]api.Act{write}, 61), 0, 0, api.ErrMany},
		{make([]api.Act, 1<<16), 0, 0, api.ErrMany},
	} {
		w, n, e := All(c.l)
		if e != c.want || n != c.done || len(w.Log) != c.records || e != api.OK && !same(w, api.World{}) {
			t.Errorf("%d acts: %v %d %d, and must have %d records, and be %d %d", len(c.l), w, n, e, c.records, c.done, c.want)
		}
	}
}

func TestK1ARefusedCrashChangesNothing(t *testing.T) {
	l := slices.Repeat([]api.Act{{Kind: api.ActWrite, Txn: 1, Val: 1}}, 58)
	l = append(l, api.Act{Kind: api.ActSync, Val: 58})
	want, n, _ := All(l)
	if n != 59 || len(want.Log) != 58 || want.Safe != 58 {
		t.Fatalf("%v %d", want, n)
	}
	if got, n, e := All(append(l, api.Act{Kind: api.ActCrash})); e != api.OK || n != 59 || !same(got, want) {
		t.Errorf("%v %d %d, and must be %v 59", got, n, e, want)
	}
}

func TestK1P2OnlyRead(t *testing.T) {
	for kind := api.ActWrite; kind <= api.ActCrash; kind++ {
		x := api.Act{Kind: kind, Txn: 3, Page: 2, Val: 5}
		room := and(make([]api.Rec, 10)...)
		was := slices.Clone(room)
		w := lab()
		w.Log = room[:5]
		got, e := Do(w, x)
		want := slices.Clone(got.Log)
		if e != api.OK || !slices.Equal(room, was) || w.Disk != lab().Disk || w.Safe != 4 {
			t.Errorf("%v: %d; what was handed in was changed: %v, %v", x, e, w, room)
		}
		clear(room)
		if !slices.Equal(got.Log, want) {
			t.Errorf("%v: a later change is seen: %v", x, got.Log)
		}
	}
	acts := []api.Act{{Kind: api.ActWrite, Txn: 1, Val: 5}, {Kind: api.ActFlush}, {Kind: 99}, {Kind: 98}}
	was := slices.Clone(acts)
	a, _, _ := All(acts[:2])
	b, _, _ := All(acts[:2])
	a.Log[0].New = 50
	if !slices.Equal(acts, was) || b.Log[0].New != 5 {
		t.Errorf("the acts are %v, the other answer %v", acts, b)
	}
}

func TestK1P3TheSameAgain(t *testing.T) {
	for range 3 {
		Do(lab(), api.Act{Kind: api.ActCrash})
		All([]api.Act{{Kind: api.ActWrite, Txn: 1, Val: 5}})
		if w, n, e := All(nil); e != api.OK || n != 0 || !same(w, world.Begin()) {
			t.Errorf("%v %d %d", w, n, e)
		}
	}
}

func TestK1DoIsTheCallOfItsLayer(t *testing.T) {
	for txn := -1; txn <= 10; txn++ {
		for n := -1; n <= 7; n++ {
			x := api.Act{Txn: txn, Page: n, Cell: n, Val: n}
			var want [7]api.World
			var e [7]api.Errno
			want[api.ActWrite], e[api.ActWrite] = work.Write(lab(), txn, n, n, n)
			want[api.ActCommit], e[api.ActCommit] = work.Commit(lab(), txn)
			want[api.ActAbort], e[api.ActAbort] = roll.Abort(lab(), txn)
			want[api.ActSync], e[api.ActSync] = flush.Sync(lab(), n)
			want[api.ActFlush], e[api.ActFlush] = flush.Page(lab(), n)
			want[api.ActCrash], _, e[api.ActCrash] = mend.All(lab())
			for x.Kind = api.ActWrite; x.Kind <= api.ActCrash; x.Kind++ {
				if got, f := Do(lab(), x); f != e[x.Kind] || !same(got, want[x.Kind]) {
					t.Errorf("%v: %v %d, and must be %v %d", x, got, f, want[x.Kind], e[x.Kind])
				}
			}
		}
	}
}
