package world

import (
	"math"
	"slices"
	"testing"

	"croft/api"
	"croft/log"
)

func wr(txn, prev, at, cell, was, now int) api.Rec {
	return api.Rec{Kind: api.Write, Txn: txn, Prev: prev, Page: at, Cell: cell, Old: was, New: now}
}

func bk(txn, prev, at, cell, was, now, next int) api.Rec {
	return api.Rec{Kind: api.Back, Txn: txn, Prev: prev, Page: at, Cell: cell, Old: was, New: now, Next: next}
}

func cm(txn, prev int) api.Rec { return api.Rec{Kind: api.Commit, Txn: txn, Prev: prev} }

func en(txn, prev int) api.Rec { return api.Rec{Kind: api.End, Txn: txn, Prev: prev} }

// three Txns: 1 takes all back, 2 commits, 3 writes then.
func three() []api.Rec {
	return []api.Rec{
		wr(1, 0, 0, 0, 0, 5), wr(2, 0, 1, 1, 0, 6), wr(1, 1, 0, 1, 0, 7), cm(2, 2), en(2, 4),
		bk(1, 3, 0, 1, 7, 0, 1), bk(1, 6, 0, 0, 5, 0, 0), en(1, 7), wr(3, 0, 0, 0, 0, 8),
	}
}

func page(last, a, b, c int) api.Page { return api.Page{Cells: [api.Cells]int{a, b, c}, Last: last} }

type pages = [api.Pages]api.Page

func TestE1Begin(t *testing.T) {
	w := Begin()
	if w.Disk != (pages{}) || len(w.Log) != 0 || w.Safe != 0 {
		t.Errorf("it begins with %v", w)
	}
	if p, e := Now(w); Check(w) != api.OK || p != (pages{}) || e != api.OK {
		t.Errorf("it is %d, Now %v %d", Check(w), p, e)
	}
}

func TestE1Safe(t *testing.T) {
	for n := range len(three()) + 1 {
		for _, safe := range []int{math.MinInt, -1, 0, 1, n - 1, n, n + 1, 60, 61, math.MaxInt} {
			want := api.ErrRange
			if 0 <= safe && safe <= n {
				want = api.OK
			}
			if e := Check(api.World{Log: three()[:n], Safe: safe}); e != want {
				t.Errorf("%d records, of which %d are safe: %d, and must be %d", n, safe, e, want)
			}
		}
	}
}

func TestE1Disk(t *testing.T) {
	for name, c := range map[string]struct {
		disk pages
		safe int
		want api.Errno
	}{
		"nothing is there":           {pages{}, 0, api.OK},
		"nothing is there, all safe": {pages{}, 9, api.OK},
		"each page has its own Last": {pages{page(6, 5, 0, 0), page(2, 0, 6, 0)}, 6, api.OK},
		"a page as it was early":     {pages{page(1, 5, 0, 0)}, 9, api.OK},
		"a page of one that hangs":   {pages{page(9, 8, 0, 0)}, 9, api.OK},
		"noughts, taken back":        {pages{page(7, 0, 0, 0)}, 7, api.OK},
		"Last is just safe":          {pages{1: page(2, 0, 6, 0)}, 2, api.OK},

		"Last is above Safe":          {pages{1: page(2, 0, 6, 0)}, 1, api.ErrForm},
		"Last is above the log":       {pages{page(10, 8, 0, 0)}, 9, api.ErrForm},
		"Last is far above":           {pages{page(math.MaxInt, 8, 0, 0)}, 9, api.ErrForm},
		"Last is below nought":        {pages{page(-1, 0, 0, 0)}, 9, api.ErrForm},
		"Last is far below":           {pages{2: page(math.MinInt, 0, 0, 0)}, 9, api.ErrForm},
		"Last is too early":           {pages{1: page(1, 0, 6, 0)}, 9, api.ErrForm},
		"Last is another page's":      {pages{1: page(3, 0, 6, 0)}, 9, api.ErrForm},
		"Last is a commit's":          {pages{1: page(4, 0, 6, 0)}, 9, api.ErrForm},
		"noughts with a Last":         {pages{2: page(1, 0, 0, 0)}, 9, api.ErrForm},
		"a cell without a Last":       {pages{1: page(0, 0, 6, 0)}, 9, api.ErrForm},
		"another value":               {pages{1: page(2, 0, 7, 0)}, 9, api.ErrForm},
		"a value more":                {pages{1: page(2, 1, 6, 0)}, 9, api.ErrForm},
		"no value at all":             {pages{1: page(2, 0, -6, 0)}, 9, api.ErrForm},
		"what is Now with an old one": {pages{page(1, 8, 0, 0)}, 9, api.ErrForm},
		"what was, with the Last":     {pages{page(9, 5, 0, 0)}, 9, api.ErrForm},
		"another page's":              {pages{page(2, 0, 6, 0)}, 9, api.ErrForm},
		"the last page alone":         {pages{page(9, 8, 0, 0), page(2, 0, 6, 0), page(0, 0, 0, 1)}, 9, api.ErrForm},
	} {
		w := api.World{Disk: c.disk, Log: three(), Safe: c.safe}
		if e := Check(w); e != c.want {
			t.Errorf("%s: %d, and must be %d", name, e, c.want)
		}
	}
}

func TestE1Now(t *testing.T) {
	for n := range len(three()) + 1 {
		want, _ := log.Pages(three()[:n])
		for safe := range n + 1 { // what is safe, and what lies on the disk, count for nothing
			disk, _ := log.Pages(three()[:safe])
			for _, disk := range []pages{{}, disk, {1: disk[1]}} {
				if got, e := Now(api.World{Disk: disk, Log: three()[:n], Safe: safe}); got != want || e != api.OK {
					t.Errorf("%d records, %d safe, with %v: %v %d, and must be %v", n, safe, disk, got, e, want)
				}
			}
		}
	}
}

func TestE1P1WhichErrorIsTold(t *testing.T) {
	form := pages{page(1, 1, 1, 1)}
	for name, c := range map[string]struct {
		w    api.World
		want api.Errno
	}{
		"many, ahead of all":      {api.World{Disk: form, Log: make([]api.Rec, 61), Safe: -1}, api.ErrMany},
		"the log's kind":          {api.World{Disk: form, Log: append(three(), api.Rec{}), Safe: -1}, api.ErrKind},
		"the log's form":          {api.World{Log: append(three(), cm(3, 0)), Safe: 99}, api.ErrForm},
		"the log's form is first": {api.World{Log: []api.Rec{en(1, 0)}, Safe: -1}, api.ErrForm},
		"the log's range":         {api.World{Disk: form, Log: append(three(), cm(10, 0))}, api.ErrRange},
		"Safe, ahead of the disk": {api.World{Disk: form, Log: three(), Safe: 10}, api.ErrRange},
		"the disk":                {api.World{Disk: form, Log: three(), Safe: 9}, api.ErrForm},
		"no log, but a disk":      {api.World{Disk: form}, api.ErrForm},
	} {
		if e := Check(c.w); e != c.want {
			t.Errorf("%s: Check is %d, and must be %d", name, e, c.want)
		}
		if p, e := Now(c.w); p != (pages{}) || e != c.want {
			t.Errorf("%s: Now is %v %d, and must be %d", name, p, e, c.want)
		}
	}
}

func TestE1P2P3(t *testing.T) {
	whole := append(three(), cm(3, 9), en(3, 10))
	was := slices.Clone(whole)
	w := api.World{Disk: pages{1: page(2, 0, 6, 0)}, Log: whole[:9], Safe: 6}
	before, _ := Now(w)
	for range 3 {
		p, e := Now(w)
		if p != before || e != api.OK || Check(w) != api.OK {
			t.Errorf("it was %v, and is %v %d, %d", before, p, e, Check(w))
		}
		Check(api.World{Log: whole, Safe: 20})
	}
	if !slices.Equal(whole, was) {
		t.Errorf("the log, or the room behind it, was changed: %v", whole)
	}
	begun := Begin()
	begun.Log = append(begun.Log, whole...)
	begun.Disk[0].Last = 1
	if again := Begin(); len(again.Log) != 0 || again.Disk != (pages{}) {
		t.Errorf("then it begins with %v", again)
	}
}
