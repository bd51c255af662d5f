package page

import (
	"math"
	"testing"

	"croft/api"
)

func cells(a, b, c int) [api.Cells]int { return [api.Cells]int{a, b, c} }

func TestA1Check(t *testing.T) {
	for _, c := range []struct {
		p    api.Page
		want api.Errno
	}{
		{api.Page{}, api.OK},
		{api.Page{Cells: cells(99, 0, 99), Last: 60}, api.OK},
		{api.Page{Cells: cells(5, 6, 7), Last: 3}, api.OK},
		{api.Page{Cells: cells(100, 0, 0)}, api.ErrRange},
		{api.Page{Cells: cells(0, 100, 0)}, api.ErrRange},
		{api.Page{Cells: cells(0, 0, 100)}, api.ErrRange},
		{api.Page{Cells: cells(-1, 0, 0)}, api.ErrRange},
		{api.Page{Cells: cells(0, -1, 0)}, api.ErrRange},
		{api.Page{Cells: cells(0, 0, -1)}, api.ErrRange},
		{api.Page{Last: 61}, api.ErrRange},
		{api.Page{Last: -1}, api.ErrRange},
	} {
		if got := Check(c.p); got != c.want {
			t.Errorf("Check(%v) is %d, and must be %d", c.p, got, c.want)
		}
	}
}

func TestA1SetTurnsThatCellAlone(t *testing.T) {
	p := api.Page{Cells: cells(1, 2, 3), Last: 60}
	for cell := range api.Cells {
		for _, val := range []int{0, 1, 7, 99} {
			for _, rec := range []int{1, 9, 60} {
				want := p
				want.Cells[cell] = val
				want.Last = rec
				if got, e := Set(p, cell, val, rec); got != want || e != api.OK {
					t.Errorf("Set(%v, %d, %d, %d) is %v %d", p, cell, val, rec, got, e)
				}
			}
		}
	}
}

func TestA1ExampleOfTheDocument(t *testing.T) {
	got, e := Set(api.Page{}, 1, 7, 9)
	if want := (api.Page{Cells: cells(0, 7, 0), Last: 9}); got != want || e != api.OK {
		t.Errorf("cell 1 is 7 by the record 9: %v %d", got, e)
	}
}

func TestA1P1SetRefusesWithAnEmptyPage(t *testing.T) {
	good := api.Page{Cells: cells(1, 2, 3), Last: 4}
	for _, c := range []struct {
		p              api.Page
		cell, val, rec int
	}{
		{good, -1, 0, 1}, {good, 3, 0, 1}, {good, 0, -1, 1}, {good, 0, 100, 1}, {good, 0, 0, 0}, {good, 0, 0, 61}, {good, 0, 0, -1},
		{api.Page{Cells: cells(100, 0, 0)}, 0, 0, 1}, {api.Page{Cells: cells(0, 0, -1)}, 2, 0, 1}, {api.Page{Last: 61}, 0, 0, 1}, {api.Page{Last: -1}, 0, 0, 1},
	} {
		if got, e := Set(c.p, c.cell, c.val, c.rec); got != (api.Page{}) || e != api.ErrRange {
			t.Errorf("Set(%v, %d, %d, %d) is %v %d", c.p, c.cell, c.val, c.rec, got, e)
		}
	}
}

func TestA1Same(t *testing.T) {
	p := api.Page{Cells: cells(1, 2, 3), Last: 4}
	for _, c := range []struct {
		q    api.Page
		want bool
	}{
		{p, true},
		{api.Page{Cells: p.Cells, Last: 5}, true},
		{api.Page{Cells: p.Cells, Last: -5}, true},
		{api.Page{Cells: cells(0, 2, 3), Last: 4}, false},
		{api.Page{Cells: cells(1, 0, 3), Last: 4}, false},
		{api.Page{Cells: cells(1, 2, 0), Last: 4}, false},
	} {
		if Same(p, c.q) != c.want || Same(c.q, p) != c.want {
			t.Errorf("Same(%v, %v) is not %v", p, c.q, c.want)
		}
	}
	wrong := api.Page{Cells: cells(-1, 100, 0), Last: 61}
	if !Same(wrong, wrong) {
		t.Error("a page that is not right is not the same as itself")
	}
}

func TestP1P3WhateverIsHandedIn(t *testing.T) {
	far := []int{math.MinInt, math.MinInt + 1, -1, 0, 1, 2, 3, 60, 61, 99, 100, math.MaxInt}
	for _, a := range far {
		for _, b := range far {
			p := api.Page{Cells: cells(0, a, 0), Last: b}
			if Check(p) != Check(p) {
				t.Fatalf("Check(%v) is not always the same", p)
			}
			for _, c := range far {
				for _, n := range far {
					was, e := Set(api.Page{Cells: cells(5, 5, 5)}, a, b, c)
					Set(p, n, c, b)
					again, f := Set(api.Page{Cells: cells(5, 5, 5)}, a, b, c)
					if was != again || e != f {
						t.Fatalf("Set(.., %d, %d, %d) is not always the same", a, b, c)
					}
					right := 0 <= a && a < 3 && 0 <= b && b <= 99 && 1 <= c && c <= 60
					if (e == api.OK) != right {
						t.Fatalf("Set(.., %d, %d, %d) has the error %d", a, b, c, e)
					}
				}
			}
		}
	}
}

func TestP2SetOnlyReads(t *testing.T) {
	p := api.Page{Cells: cells(1, 2, 3), Last: 4}
	q, _ := Set(p, 0, 9, 9)
	if p != (api.Page{Cells: cells(1, 2, 3), Last: 4}) {
		t.Errorf("what was handed in is %v now", p)
	}
	p.Cells[1] = 50
	if q != (api.Page{Cells: cells(9, 2, 3), Last: 9}) {
		t.Errorf("the answer is %v now", q)
	}
}
