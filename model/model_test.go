package model

import (
	"slices"
	"testing"

	"croft/api"
	"croft/log"
)

func wr(txn, prev, at, cell, was, now int) api.Rec {
	return api.Rec{Kind: api.Write, Txn: txn, Prev: prev, Page: at, Cell: cell, Old: was, New: now}
}

func bk(txn, prev, at, cell, was, now, next int) api.Rec {
	return api.Rec{Kind: api.Back, Txn: txn, Prev: prev, Page: at, Cell: cell, Old: was, New: now, Next: next}
}

func cm(txn, prev int) api.Rec { return api.Rec{Kind: api.Commit, Txn: txn, Prev: prev} }

func en(txn, prev int) api.Rec { return api.Rec{Kind: api.End, Txn: txn, Prev: prev} }

// three Txns: 1 takes all back, 2 commits, 3 writes then.
func three() []api.Rec {
	return []api.Rec{
		wr(1, 0, 0, 0, 0, 5), wr(2, 0, 1, 1, 0, 6), wr(1, 1, 0, 1, 0, 7), cm(2, 2), en(2, 4),
		bk(1, 3, 0, 1, 7, 0, 1), bk(1, 6, 0, 0, 5, 0, 0), en(1, 7), wr(3, 0, 0, 0, 0, 8),
	}
}

type cells = [api.Pages][api.Cells]int

func TestD1(t *testing.T) {
	for name, c := range map[string]struct {
		l     []api.Rec
		cells cells
		wins  []int
	}{
		"none":                     {nil, cells{}, nil},
		"empty":                    {[]api.Rec{}, cells{}, nil},
		"a write alone":            {three()[:2], cells{}, nil},
		"a commit, and no end":     {three()[:4], cells{1: {0, 6, 0}}, []int{2}},
		"a commit, and its end":    {three()[:5], cells{1: {0, 6, 0}}, []int{2}},
		"one is half taken back":   {three()[:6], cells{1: {0, 6, 0}}, []int{2}},
		"one is over, and lost":    {three()[:8], cells{1: {0, 6, 0}}, []int{2}},
		"another writes then":      {three(), cells{1: {0, 6, 0}}, []int{2}},
		"one that wrote nothing":   {[]api.Rec{cm(9, 0)}, cells{}, []int{9}},
		"the last of two writes":   {[]api.Rec{wr(1, 0, 2, 2, 0, 5), wr(1, 1, 2, 2, 5, 99), cm(1, 2)}, cells{2: {0, 0, 99}}, []int{1}},
		"a write of nought counts": {[]api.Rec{wr(1, 0, 0, 0, 0, 5), cm(1, 1), en(1, 2), wr(2, 0, 0, 0, 5, 0), cm(2, 4)}, cells{}, []int{1, 2}},
		"the last of two winners":  {[]api.Rec{wr(2, 0, 0, 0, 0, 5), cm(2, 1), en(2, 2), wr(1, 0, 0, 0, 5, 6), cm(1, 4), en(1, 5)}, cells{{6, 0, 0}}, []int{2, 1}},
		"what hangs is not there":  {[]api.Rec{wr(2, 0, 0, 0, 0, 5), cm(2, 1), en(2, 2), wr(1, 0, 0, 0, 5, 6)}, cells{{5, 0, 0}}, []int{2}},
		"written ahead, won behind": {[]api.Rec{wr(7, 0, 0, 0, 0, 1), wr(8, 0, 0, 1, 0, 2), wr(3, 0, 1, 0, 0, 3), cm(8, 2), cm(7, 1), en(8, 4), cm(3, 3)},
			cells{{1, 2, 0}, {3, 0, 0}}, []int{8, 7, 3}},
	} {
		if got, e := Cells(c.l); got != c.cells || e != api.OK {
			t.Errorf("%s: the cells are %v %d, and must be %v", name, got, e, c.cells)
		}
		if got, e := Wins(c.l); !slices.Equal(got, c.wins) || e != api.OK {
			t.Errorf("%s: there win %v %d, and must win %v", name, got, e, c.wins)
		}
	}
}

func TestD1AllTxnsAndAllCells(t *testing.T) {
	var l []api.Rec
	var want cells
	var wins []int
	for i := range 9 {
		txn, n := 9-i, 3*i
		want[i/3][i%3] = 10 + i
		wins = append(wins, txn)
		l = append(l, wr(txn, 0, i/3, i%3, 0, 10+i), cm(txn, n+1), en(txn, n+2))
	}
	if got, e := Cells(l); got != want || e != api.OK {
		t.Errorf("the cells are %v %d, and must be %v", got, e, want)
	}
	if got, e := Wins(l); !slices.Equal(got, wins) || e != api.OK {
		t.Errorf("there win %v %d, and must win %v", got, e, wins)
	}
}

func TestD1P1TheLogsErrors(t *testing.T) {
	for _, more := range [][]api.Rec{
		make([]api.Rec, 60), make([]api.Rec, 1), {{Kind: 5, Txn: 1}}, {cm(0, 0)}, {cm(10, 0)}, {wr(4, 0, 0, 1, 0, 100)}, {wr(4, 0, 0, 0, 8, 9)}, {cm(3, 0)}, {en(3, 9)},
	} {
		l := slices.Concat(three(), more)
		want := log.Check(l)
		if want == api.OK {
			t.Fatalf("%v is right", l)
		}
		if got, e := Cells(l); got != (cells{}) || e != want {
			t.Errorf("Cells(%v) is %v %d, and must be %d", l, got, e, want)
		}
		if got, e := Wins(l); len(got) != 0 || e != want {
			t.Errorf("Wins(%v) is %v %d, and must be %d", l, got, e, want)
		}
	}
}

func TestD1P2P3(t *testing.T) {
	whole := three()
	for n := range len(whole) + 1 {
		Cells(whole[:n])
		Wins(whole[:n])
	}
	if !slices.Equal(whole, three()) {
		t.Fatalf("the log was changed: %v", whole)
	}
	wins, _ := Wins(whole)
	again, _ := Wins(whole)
	wins[0] = 77
	whole[3] = cm(9, 0)
	if last, e := Wins(three()); again[0] != 2 || last[0] != 2 || e != api.OK {
		t.Errorf("there win %v, and then %v %d", again, last, e)
	}
}
