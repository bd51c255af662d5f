package rec

import (
	"math"
	"testing"

	"croft/api"
)

func wr(txn, prev, at, cell, was, now int) api.Rec {
	return api.Rec{Kind: api.Write, Txn: txn, Prev: prev, Page: at, Cell: cell, Old: was, New: now}
}

func bk(txn, prev, at, cell, was, now, next int) api.Rec {
	return api.Rec{Kind: api.Back, Txn: txn, Prev: prev, Page: at, Cell: cell, Old: was, New: now, Next: next}
}

func plain(kind, txn, prev int) api.Rec { return api.Rec{Kind: kind, Txn: txn, Prev: prev} }

type question struct {
	n    int
	r    api.Rec
	want api.Errno
}

func hold(t *testing.T, asks []question) {
	t.Helper()
	for _, a := range asks {
		if got := Check(a.n, a.r); got != a.want {
			t.Errorf("Check(%d, %+v) is %d, and must be %d", a.n, a.r, got, a.want)
		}
	}
}

func TestB1RightRecords(t *testing.T) {
	hold(t, []question{
		{1, wr(1, 0, 0, 0, 0, 0), api.OK},
		{60, wr(9, 59, 2, 2, 99, 99), api.OK},
		{1, bk(1, 0, 0, 0, 0, 0, 0), api.OK},
		{60, bk(9, 59, 2, 2, 99, 99, 59), api.OK},
		{1, plain(api.Commit, 1, 0), api.OK},
		{60, plain(api.Commit, 9, 59), api.OK},
		{1, plain(api.End, 1, 0), api.OK},
		{60, plain(api.End, 9, 59), api.OK},
	})
}

func TestB1NumberOfTheRecord(t *testing.T) {
	for _, n := range []int{math.MinInt, -1, 0, 61, math.MaxInt} {
		hold(t, []question{
			{n, wr(1, 0, 0, 0, 0, 0), api.ErrRange},
			{n, plain(api.End, 1, 0), api.ErrRange},
			{n, plain(0, 1, 0), api.ErrRange},
			{n, plain(5, 1, 0), api.ErrRange},
		})
	}
}

func TestB1Kind(t *testing.T) {
	for _, kind := range []int{math.MinInt, -1, 0, 5, math.MaxInt} {
		hold(t, []question{
			{1, plain(kind, 1, 0), api.ErrKind},
			{1, plain(kind, 0, 1), api.ErrKind},
			{7, api.Rec{Kind: kind, Txn: 1, New: 100, Next: -1}, api.ErrKind},
		})
	}
}

func TestB1Ranges(t *testing.T) {
	for kind := api.Write; kind <= api.End; kind++ {
		for _, txn := range []int{math.MinInt, -1, 0, 10, math.MaxInt} {
			hold(t, []question{{7, plain(kind, txn, 0), api.ErrRange}})
		}
		for _, prev := range []int{math.MinInt, -1, 7, 8, math.MaxInt} {
			hold(t, []question{{7, plain(kind, 1, prev), api.ErrRange}})
		}
		hold(t, []question{{7, plain(kind, 1, 6), api.OK}, {1, plain(kind, 1, 1), api.ErrRange}})
	}
	for _, kind := range []int{api.Write, api.Back} {
		for _, far := range []int{math.MinInt, -1, 100, math.MaxInt} {
			hold(t, []question{
				{7, api.Rec{Kind: kind, Txn: 1, Page: far}, api.ErrRange},
				{7, api.Rec{Kind: kind, Txn: 1, Cell: far}, api.ErrRange},
				{7, api.Rec{Kind: kind, Txn: 1, Old: far}, api.ErrRange},
				{7, api.Rec{Kind: kind, Txn: 1, New: far}, api.ErrRange},
			})
		}
		hold(t, []question{
			{7, api.Rec{Kind: kind, Txn: 1, Page: 3}, api.ErrRange},
			{7, api.Rec{Kind: kind, Txn: 1, Cell: 3}, api.ErrRange},
		})
	}
	for _, next := range []int{math.MinInt, -1, 7, math.MaxInt} {
		hold(t, []question{{7, bk(1, 0, 0, 0, 0, 0, next), api.ErrRange}})
	}
	hold(t, []question{{7, bk(1, 0, 0, 0, 0, 0, 6), api.OK}})
}

func TestB1WhatIsNotToldIsNought(t *testing.T) {
	for _, x := range []int{math.MinInt, -1, 1, 100, math.MaxInt} {
		for _, kind := range []int{api.Commit, api.End} {
			hold(t, []question{
				{7, api.Rec{Kind: kind, Txn: 1, Page: x}, api.ErrForm},
				{7, api.Rec{Kind: kind, Txn: 1, Cell: x}, api.ErrForm},
				{7, api.Rec{Kind: kind, Txn: 1, Old: x}, api.ErrForm},
				{7, api.Rec{Kind: kind, Txn: 1, New: x}, api.ErrForm},
				{7, api.Rec{Kind: kind, Txn: 1, Next: x}, api.ErrForm},
			})
		}
		hold(t, []question{{7, api.Rec{Kind: api.Write, Txn: 1, Next: x}, api.ErrForm}})
	}
}

func TestB1P1ErrorsInTheirOrder(t *testing.T) {
	hold(t, []question{
		{0, api.Rec{Kind: 9, Txn: 1, Next: 1}, api.ErrRange},
		{1, api.Rec{Kind: 9, Txn: 10, Next: 1}, api.ErrKind},
		{1, api.Rec{Kind: api.Commit, Txn: 10, Next: 1}, api.ErrRange},
		{1, api.Rec{Kind: api.End, Txn: 1, Prev: 1, Page: 1}, api.ErrRange},
		{1, api.Rec{Kind: api.Write, Txn: 1, New: 100, Next: 1}, api.ErrRange},
		{1, api.Rec{Kind: api.Write, Txn: 1, New: 99, Next: 1}, api.ErrForm},
	})
}

func TestB1Turns(t *testing.T) {
	for _, kind := range []int{math.MinInt, -1, 0, api.Write, api.Commit, api.Back, api.End, 5, math.MaxInt} {
		want := kind == api.Write || kind == api.Back
		if Turns(plain(kind, 1, 0)) != want || Turns(api.Rec{Kind: kind, Txn: -1, Page: 9}) != want {
			t.Errorf("Turns of the kind %d is not %v", kind, want)
		}
	}
}

// The answers hang on the arguments alone, however far these are out.
func TestP1P3WhateverIsHandedIn(t *testing.T) {
	far := []int{math.MinInt, -1, 0, 1, 3, 60, 61, 100, math.MaxInt}
	for _, n := range far {
		for kind := -1; kind <= 5; kind++ {
			for _, x := range far {
				for field := range 7 {
					r := plain(kind, 1, 0)
					*[]*int{&r.Txn, &r.Prev, &r.Page, &r.Cell, &r.Old, &r.New, &r.Next}[field] = x
					was := Check(n, r)
					Check(n, plain(5, 0, 0))
					if Check(n, r) != was {
						t.Fatalf("Check(%d, %+v) is not always the same", n, r)
					}
				}
			}
		}
	}
}
