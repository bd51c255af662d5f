package mend

import (
	"math"
	"slices"
	"testing"

	"croft/api"
	"croft/log"
	"croft/model"
	"croft/scan"
	"croft/work"
	"croft/world"
)

func wr(txn, prev, at, cell, was, now int) api.Rec {
	return api.Rec{Kind: api.Write, Txn: txn, Prev: prev, Page: at, Cell: cell, Old: was, New: now}
}

func bk(txn, prev, at, cell, was, now, next int) api.Rec {
	return api.Rec{Kind: api.Back, Txn: txn, Prev: prev, Page: at, Cell: cell, Old: was, New: now, Next: next}
}

func cm(txn, prev int) api.Rec { return api.Rec{Kind: api.Commit, Txn: txn, Prev: prev} }

func en(txn, prev int) api.Rec { return api.Rec{Kind: api.End, Txn: txn, Prev: prev} }

type pages = [api.Pages]api.Page

func page(last, a, b, c int) api.Page { return api.Page{Cells: [api.Cells]int{a, b, c}, Last: last} }

// lab: of what is safe, 4 and 3 have a Commit and no End, 8, 2 and 6 hang, and 6 is half taken back; 5 commits in what is not safe.
func lab() api.World {
	return api.World{
		Disk: pages{2: page(3, 4, 0, 0)},
		Log: []api.Rec{
			wr(8, 0, 0, 0, 0, 5), wr(4, 0, 1, 1, 0, 6), wr(2, 0, 2, 0, 0, 4), cm(4, 2),
			wr(6, 0, 0, 1, 0, 7), wr(6, 5, 0, 2, 0, 8), bk(6, 6, 0, 2, 8, 0, 5),
			cm(3, 0), wr(2, 3, 2, 1, 0, 9), wr(8, 1, 0, 0, 5, 1),
			wr(5, 0, 1, 2, 0, 3), cm(5, 11), en(5, 12),
		},
		Safe: 10,
	}
}

// lacking: what is put behind the lab's ten safe records.
func lacking() []api.Rec {
	return []api.Rec{
		en(3, 8), en(4, 4),
		bk(8, 10, 0, 0, 1, 5, 1), bk(8, 13, 0, 0, 5, 0, 0), en(8, 14),
		bk(2, 9, 2, 1, 9, 0, 3), bk(2, 16, 2, 0, 4, 0, 0), en(2, 17),
		bk(6, 7, 0, 1, 7, 0, 0), en(6, 19),
	}
}

func same(a, b api.World) bool {
	return a.Disk == b.Disk && a.Safe == b.Safe && slices.Equal(a.Log, b.Log)
}

// with: that world with another disk, and with so many records safe.
func with(w api.World, disk pages, safe int) api.World {
	return api.World{Disk: disk, Log: w.Log, Safe: safe}
}

// writes: n records of 1, all of them Writes of one cell.
func writes(n int) []api.Rec {
	var l []api.Rec
	for i := range n {
		l = append(l, wr(1, i, 2, 2, i, i+1))
	}
	return l
}

// safe: a world of that log, all of it safe, of which nothing lies on the disk.
func safe(l ...api.Rec) api.World { return api.World{Log: l, Safe: len(l)} }

func told(l []api.Rec) pages {
	p, _ := log.Pages(l)
	return p
}

func truths(bits int) []bool {
	t := make([]bool, api.Pages)
	for i := range t {
		t[i] = bits>>i&1 == 1
	}
	return t
}

func TestJ1All(t *testing.T) {
	l := lab().Log
	for name, c := range map[string]struct {
		w   api.World
		put []api.Rec
	}{
		"the lab":                       {lab(), lacking()},
		"whatever lies on the disk":     {with(lab(), pages{page(6, 5, 7, 8), page(2, 0, 6, 0)}, 10), lacking()},
		"the beginning":                 {world.Begin(), nil},
		"nothing is safe":               {api.World{Log: l}, nil},
		"a Write":                       {safe(l[:1]...), []api.Rec{bk(8, 1, 0, 0, 5, 0, 0), en(8, 2)}},
		"a Write that turns nothing":    {safe(wr(9, 0, 2, 2, 0, 0)), []api.Rec{bk(9, 1, 2, 2, 0, 0, 0), en(9, 2)}},
		"who wrote last comes first":    {safe(l[:2]...), []api.Rec{bk(4, 2, 1, 1, 6, 0, 0), en(4, 3), bk(8, 1, 0, 0, 5, 0, 0), en(8, 5)}},
		"its Commit is not safe":        {api.World{Log: []api.Rec{wr(1, 0, 0, 0, 0, 5), cm(1, 1), en(1, 2)}, Safe: 1}, []api.Rec{bk(1, 1, 0, 0, 5, 0, 0), en(1, 2)}},
		"its Commit is, its End is not": {api.World{Log: []api.Rec{wr(1, 0, 0, 0, 0, 5), cm(1, 1), en(1, 2)}, Safe: 2}, []api.Rec{en(1, 2)}},
		"its End is safe":               {safe(wr(1, 0, 0, 0, 0, 5), cm(1, 1), en(1, 2)), nil},
		"its End alone is lacking":      {safe(wr(1, 0, 0, 0, 0, 5), bk(1, 1, 0, 0, 5, 0, 0)), []api.Rec{en(1, 2)}},
		"Ends rise, whoever won first":  {safe(cm(7, 0), cm(9, 0), cm(1, 0)), []api.Rec{en(1, 3), en(7, 1), en(9, 2)}},
	} {
		left := slices.Clone(c.w.Log[:c.w.Safe])
		l := append(left, c.put...)
		want := api.World{Disk: told(l), Log: l, Safe: len(l)}
		got, n, e := All(c.w)
		if e != api.OK || n != len(c.put) || !same(got, want) || world.Check(got) != api.OK {
			t.Errorf("%s: %v %d %d, and must be %v %d", name, got, n, e, want, len(c.put))
		}
		if losers, _ := scan.Losers(got.Log); len(losers) > 0 {
			t.Errorf("%s: %v hang", name, losers)
		}
		if again, n, e := All(got); e != api.OK || n != 0 || !same(again, got) {
			t.Errorf("%s: it is mended again: %v %d %d", name, again, n, e)
		}
	}
}

func TestJ2Half(t *testing.T) {
	for bits := range 1 << api.Pages {
		for _, steps := range []int{0, 1, 2, 3, 4, 5, 6, 7, 8, 9, 10, 11, 60, 61, math.MaxInt} {
			l := slices.Concat(lab().Log[:10], lacking()[:min(steps, 10)])
			want := api.World{Disk: lab().Disk, Log: l, Safe: len(l)}
			for at, yes := range truths(bits) {
				if yes {
					want.Disk[at] = told(l)[at]
				}
			}
			got, e := Half(lab(), steps, truths(bits))
			if e != api.OK || !same(got, want) || world.Check(got) != api.OK {
				t.Errorf("%d steps, %v: %v %d, and must be %v", steps, truths(bits), got, e, want)
			}
		}
	}
	if got, e := Half(world.Begin(), 1, truths(7)); e != api.OK || !same(got, api.World{}) {
		t.Errorf("in the beginning: %v %d", got, e)
	}
}

func TestJ1J2TheLogsLastRecords(t *testing.T) {
	two := append(writes(29), wr(2, 0, 0, 0, 0, 1)) // 2 takes two records, and then 1 thirty
	for name, c := range map[string]struct {
		w     api.World
		steps int
		want  int // how many records there are then; 0: there would be too many
	}{
		"29 Writes, all":             {safe(writes(29)...), math.MaxInt, 59},
		"30 Writes, all":             {safe(writes(30)...), math.MaxInt, 0},
		"30 Writes, but for the End": {safe(writes(30)...), 30, 60},
		"30 Writes, and the End":     {safe(writes(30)...), 31, 0},
		"60 Writes, none":            {safe(writes(60)...), 0, 60},
		"60 Writes, one":             {safe(writes(60)...), 1, 0},
		"60 Writes, of which 29":     {api.World{Log: writes(60), Safe: 29}, math.MaxInt, 59},
		"two, all":                   {safe(two...), math.MaxInt, 0},
		"two, the last room":         {safe(two...), 30, 60},
		"two, one too many":          {safe(two...), 31, 0},
		"60, nothing is lacking":     {safe(over(60)...), math.MaxInt, 60},
		"60, an End is lacking":      {safe(append(over(59), cm(1, 0))...), math.MaxInt, 0},
		"60, an End, but no step":    {safe(append(over(59), cm(1, 0))...), 0, 60},
		"60, an End, and one step":   {safe(append(over(59), cm(1, 0))...), 1, 0},
		"59, an End is lacking":      {safe(append(over(58), cm(1, 0))...), math.MaxInt, 60},
		"59, two Ends are lacking":   {safe(append(over(57), cm(1, 0), cm(3, 0))...), math.MaxInt, 0},
		"59, two Ends, and one step": {safe(append(over(57), cm(1, 0), cm(3, 0))...), 1, 60},
	} {
		e := api.OK
		if c.want == 0 {
			e = api.ErrMany
		}
		got, f := Half(c.w, c.steps, truths(5))
		if f != e || len(got.Log) != c.want || got.Safe != c.want || c.want == 0 && !same(got, api.World{}) {
			t.Errorf("%s: %v %d, and must have %d records, and be %d", name, got, f, c.want, e)
		}
		if c.steps < math.MaxInt {
			continue
		}
		put := max(0, c.want-c.w.Safe)
		got, n, f := All(c.w)
		if f != e || n != put || len(got.Log) != c.want || c.want == 0 && !same(got, api.World{}) {
			t.Errorf("%s: All is %v %d %d, and must have %d records, and be %d", name, got, n, f, c.want, e)
		}
	}
}

// over: n records of 2, which wins and is over by then.
func over(n int) []api.Rec {
	var l []api.Rec
	for i := range n - 2 {
		l = append(l, wr(2, i, 1, 1, i, i+1))
	}
	return append(l, cm(2, n-2), en(2, n-1))
}

// refused: what is no right world, of which both calls tell as scan.Crash does.
func refused() map[string]struct {
	w    api.World
	want api.Errno
} {
	return map[string]struct {
		w    api.World
		want api.Errno
	}{
		"the log's many":            {api.World{Log: make([]api.Rec, 61)}, api.ErrMany},
		"the log's kind":            {api.World{Log: append(lab().Log, api.Rec{})}, api.ErrKind},
		"the log's range":           {api.World{Log: append(lab().Log, cm(10, 0))}, api.ErrRange},
		"the log's form":            {api.World{Log: lab().Log[1:]}, api.ErrForm},
		"form, behind what is safe": {with(api.World{Log: append(lab().Log, cm(5, 13))}, lab().Disk, 10), api.ErrForm},
		"Safe below":                {with(lab(), pages{}, -1), api.ErrRange},
		"Safe above":                {with(lab(), pages{}, 14), api.ErrRange},
		"Safe far above":            {with(lab(), pages{}, math.MaxInt), api.ErrRange},
		"the disk":                  {with(lab(), pages{page(1, 5, 0, 1)}, 10), api.ErrForm},
		"the disk, not safe":        {with(lab(), pages{page(10, 1, 7, 0)}, 9), api.ErrForm},
		"the disk, ahead of many":   {with(safe(writes(60)...), pages{page(1, 0, 0, 0)}, 60), api.ErrForm},
	}
}

func TestJ1J2P1IsRefused(t *testing.T) {
	for name, c := range refused() {
		if got, n, e := All(c.w); e != c.want || n != 0 || !same(got, api.World{}) {
			t.Errorf("%s: All is %v %d %d, and must be %d", name, got, n, e, c.want)
		}
		for _, steps := range []int{-1, 0, 1, 99} {
			for _, pages := range [][]bool{nil, truths(2), truths(7), make([]bool, 4)} {
				if got, e := Half(c.w, steps, pages); e != c.want || !same(got, api.World{}) {
					t.Errorf("%s: Half of %d, %v is %v %d, and must be %d", name, steps, pages, got, e, c.want)
				}
			}
		}
	}
}

func TestJ2P1HalfIsRefused(t *testing.T) {
	for name, c := range map[string]struct {
		w     api.World
		steps int
		pages []bool
		want  api.Errno
	}{
		"steps below":                {lab(), -1, truths(7), api.ErrRange},
		"steps far below":            {lab(), math.MinInt, truths(7), api.ErrRange},
		"steps below, of nothing":    {world.Begin(), -1, truths(0), api.ErrRange},
		"steps below, of a full log": {safe(writes(60)...), -1, truths(0), api.ErrRange},
		"no truths":                  {lab(), 1, nil, api.ErrForm},
		"no truths, an empty list":   {lab(), 1, []bool{}, api.ErrForm},
		"a truth less":               {lab(), 1, []bool{true, true}, api.ErrForm},
		"a truth more":               {lab(), 1, []bool{true, true, true, true}, api.ErrForm},
		"a falsehood more":           {lab(), 0, make([]bool, 4), api.ErrForm},
		"many truths more":           {lab(), 99, make([]bool, 1<<16), api.ErrForm},
		"range, ahead of form":       {lab(), -1, nil, api.ErrRange},
		"many, ahead of form":        {safe(writes(60)...), 1, nil, api.ErrMany},
		"not many, but form":         {safe(writes(60)...), 0, nil, api.ErrForm},
	} {
		if got, e := Half(c.w, c.steps, c.pages); e != c.want || !same(got, api.World{}) {
			t.Errorf("%s: %v %d, and must be %d", name, got, e, c.want)
		}
	}
}

func cellsOf(p pages) [api.Pages][api.Cells]int {
	var cells [api.Pages][api.Cells]int
	for at := range p {
		cells[at] = p[at].Cells
	}
	return cells
}

func TestJ3TheCellsAreWhatMustBe(t *testing.T) {
	for n := range len(lab().Log) + 1 {
		w := with(lab(), pages{}, n)
		must, _ := model.Cells(lab().Log[:n])
		all, put, e := All(w)
		if e != api.OK || cellsOf(all.Disk) != must {
			t.Errorf("%d are safe: %v lie there, %d, and %v must be", n, all.Disk, e, must)
		}
		for first := range put + 2 {
			for second := range put + 2 {
				x, _ := Half(w, first, truths(first+second))
				x, _ = Half(x, second, truths(second))
				x, more, e := All(x)
				if e != api.OK || !same(x, all) || more != put-min(first+second, put) {
					t.Errorf("%d are safe, and %d and %d steps: %v %d %d, and must be %v", n, first, second, x, more, e, all)
				}
			}
		}
	}
}

func TestJ3WorkGoesOnBehindACrash(t *testing.T) {
	w, _ := work.Write(world.Begin(), 1, 0, 0, 5)
	w, _ = work.Commit(w, 1)
	w, _ = work.Write(w, 2, 0, 0, 6)
	w, n, e := All(w)
	if e != api.OK || n != 1 || w.Disk != (pages{page(1, 5, 0, 0)}) {
		t.Errorf("what was not safe is lost, the End is put: %v %d %d", w, n, e)
	}
	w, e = work.Write(w, 2, 0, 0, 7)
	if e != api.OK {
		t.Errorf("who was lost may begin anew, its cell is let go: %d", e)
	}
	w, _ = work.Write(w, 3, 1, 1, 8)
	w, _ = work.Commit(w, 3)
	w, n, e = All(w)
	if e != api.OK || n != 3 || cellsOf(w.Disk) != [api.Pages][api.Cells]int{{5}, {0, 8, 0}} {
		t.Errorf("2 is taken back, 3 has won: %v %d %d", w, n, e)
	}
	if _, e := work.Write(w, 2, 0, 0, 9); e != api.ErrOver {
		t.Errorf("who was taken back is over: %d", e)
	}
}

func TestJ1J2P2OnlyRead(t *testing.T) {
	calls := []func(w api.World, pages []bool) (api.World, api.Errno){
		func(w api.World, _ []bool) (api.World, api.Errno) { x, _, e := All(w); return x, e },
		func(w api.World, pages []bool) (api.World, api.Errno) { return Half(w, 10, pages) },
		func(w api.World, pages []bool) (api.World, api.Errno) { return Half(w, 0, pages) },
	}
	for i, call := range calls {
		room := append(lab().Log, make([]api.Rec, 20)...)
		was := slices.Clone(room)
		w := lab()
		w.Log = room[:13]
		yes := []bool{true, false, true, true, false}
		got, e := call(w, yes[:3])
		for n := range got.Log {
			got.Log[n].New = 50
		}
		_ = append(got.Log, api.Rec{Kind: 50}, api.Rec{Kind: 50})
		if e != api.OK || !slices.Equal(room, was) || w.Disk != lab().Disk || w.Safe != 10 || !slices.Equal(yes, []bool{true, false, true, true, false}) {
			t.Errorf("call %d: %d; what was handed in was changed: %v, %v, %v", i, e, w, room, yes)
		}
		got, _ = call(w, yes[:3])
		want := slices.Concat(lab().Log[:10], lacking())[:len(got.Log)]
		clear(room)
		clear(yes)
		if !slices.Equal(got.Log, want) {
			t.Errorf("call %d: a later change is seen: %v", i, got.Log)
		}
	}
}

func TestJ1J2P3TheSameAgain(t *testing.T) {
	all, put, _ := All(lab())
	half, _ := Half(lab(), 4, truths(3))
	for range 3 {
		All(half)
		Half(all, 2, truths(7))
		All(safe(writes(60)...))
		Half(lab(), 7, nil)
		if got, n, e := All(lab()); e != api.OK || n != put || !same(got, all) {
			t.Errorf("All was %v %d, and is %v %d %d", all, put, got, n, e)
		}
		if got, e := Half(lab(), 4, truths(3)); e != api.OK || !same(got, half) {
			t.Errorf("Half was %v, and is %v %d", half, got, e)
		}
	}
}
