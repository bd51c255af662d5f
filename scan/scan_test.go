package scan

import (
	"math"
	"slices"
	"testing"

	"croft/api"
	"croft/log"
	"croft/world"
)

func wr(txn, prev, at, cell, was, now int) api.Rec {
	return api.Rec{Kind: api.Write, Txn: txn, Prev: prev, Page: at, Cell: cell, Old: was, New: now}
}

func bk(txn, prev, at, cell, was, now, next int) api.Rec {
	return api.Rec{Kind: api.Back, Txn: txn, Prev: prev, Page: at, Cell: cell, Old: was, New: now, Next: next}
}

func cm(txn, prev int) api.Rec { return api.Rec{Kind: api.Commit, Txn: txn, Prev: prev} }

func en(txn, prev int) api.Rec { return api.Rec{Kind: api.End, Txn: txn, Prev: prev} }

type pages = [api.Pages]api.Page

func pg(last, a, b, c int) api.Page { return api.Page{Cells: [api.Cells]int{a, b, c}, Last: last} }

// lab: the records turn the pages 0 1 0 - - 0 0 - 0 - 1 (- for none), and never page 2. 9 has a Commit and no End, 3 and 4 hang; six records are safe, and page 1 lies there as it is but for the last record.
func lab() api.World {
	return api.World{
		Disk: pages{1: pg(2, 0, 6, 0)},
		Log: []api.Rec{
			wr(1, 0, 0, 0, 0, 5), wr(2, 0, 1, 1, 0, 6), wr(1, 1, 0, 1, 0, 7), cm(2, 2), en(2, 4),
			bk(1, 3, 0, 1, 7, 0, 1), bk(1, 6, 0, 0, 5, 0, 0), en(1, 7), wr(4, 0, 0, 0, 0, 8), cm(9, 0), wr(3, 0, 1, 1, 6, 9),
		},
		Safe: 6,
	}
}

func same(a, b api.World) bool {
	return a.Disk == b.Disk && a.Safe == b.Safe && slices.Equal(a.Log, b.Log)
}

// with: that world with another disk, and with so many records safe.
func with(w api.World, disk pages, safe int) api.World {
	return api.World{Disk: disk, Log: w.Log, Safe: safe}
}

// writes: n records of 1, all of them Writes of one cell.
func writes(n int) []api.Rec {
	var l []api.Rec
	for i := range n {
		l = append(l, wr(1, i, 2, 2, i, i+1))
	}
	return l
}

func TestI1Crash(t *testing.T) {
	for n := range len(lab().Log) + 1 {
		disk := pages{}
		if n >= 2 {
			disk = lab().Disk
		}
		want := api.World{Disk: disk, Log: lab().Log[:n], Safe: n}
		got, e := Crash(with(lab(), disk, n))
		if e != api.OK || !same(got, want) || world.Check(got) != api.OK {
			t.Errorf("%d are safe: %v %d, and must be %v", n, got, e, want)
		}
		if again, e := Crash(got); e != api.OK || !same(again, got) {
			t.Errorf("%d are safe: it crashes again, and is %v %d", n, again, e)
		}
	}
	if got, e := Crash(world.Begin()); e != api.OK || !same(got, api.World{}) {
		t.Errorf("in the beginning: %v %d", got, e)
	}
	full := api.World{Disk: pages{2: pg(60, 0, 0, 60)}, Log: writes(60), Safe: 60}
	if got, e := Crash(full); e != api.OK || !same(got, full) {
		t.Errorf("a full log: %v %d", got, e)
	}
	if got, e := Crash(api.World{Log: writes(60), Safe: 59}); e != api.OK || !same(got, api.World{Log: writes(59), Safe: 59}) {
		t.Errorf("a full log, but one is safe: %v %d", got, e)
	}
}

// refused: what is no right world; the log's errors stand ahead of what the disk or Safe has.
func refused() map[string]struct {
	w    api.World
	want api.Errno
} {
	return map[string]struct {
		w    api.World
		want api.Errno
	}{
		"the log's many":                {api.World{Log: make([]api.Rec, 61)}, api.ErrMany},
		"the log's many, of 60 right":   {api.World{Log: writes(61)}, api.ErrMany},
		"the log's kind":                {api.World{Log: append(lab().Log, api.Rec{})}, api.ErrKind},
		"the log's range":               {api.World{Log: append(lab().Log, cm(10, 0))}, api.ErrRange},
		"the log's form":                {api.World{Log: append(lab().Log, cm(1, 8))}, api.ErrForm},
		"form, where nothing is safe":   {api.World{Log: lab().Log[1:]}, api.ErrForm},
		"form, behind what is safe":     {with(api.World{Log: append(lab().Log, en(3, 11))}, lab().Disk, 6), api.ErrForm},
		"the log's form, ahead of Safe": {api.World{Log: lab().Log[1:], Safe: -1}, api.ErrForm},
		"Safe below":                    {with(lab(), pages{}, -1), api.ErrRange},
		"Safe far below":                {with(lab(), pages{}, math.MinInt), api.ErrRange},
		"Safe just above":               {with(lab(), pages{}, 12), api.ErrRange},
		"Safe far above":                {with(lab(), pages{}, math.MaxInt), api.ErrRange},
		"Safe of no log":                {api.World{Safe: 1}, api.ErrRange},
		"Safe, ahead of the disk":       {with(lab(), pages{pg(1, 9, 9, 9)}, 12), api.ErrRange},
		"a cell of the disk":            {with(lab(), pages{1: pg(2, 0, 6, 1)}, 11), api.ErrForm},
		"a Last of the disk":            {with(lab(), pages{1: pg(3, 0, 6, 0)}, 11), api.ErrForm},
		"a Last below":                  {with(lab(), pages{pg(-1, 0, 0, 0)}, 11), api.ErrForm},
		"a Last far above":              {with(lab(), pages{pg(math.MaxInt, 0, 0, 0)}, 11), api.ErrForm},
		"a Last that is not safe":       {with(lab(), lab().Disk, 1), api.ErrForm},
	}
}

func TestI1I2P1IsRefused(t *testing.T) {
	for name, c := range refused() {
		if got, e := Crash(c.w); e != c.want || !same(got, api.World{}) {
			t.Errorf("%s: Crash is %v %d, and must be %d", name, got, e, c.want)
		}
		if got, n, e := Redo(c.w); e != c.want || n != 0 || got != (pages{}) {
			t.Errorf("%s: Redo is %v %d %d, and must be %d", name, got, n, e, c.want)
		}
	}
}

func TestI1Losers(t *testing.T) {
	all := []api.Rec{}
	for txn := api.MaxTxns; txn >= 1; txn-- {
		all = append(all, wr(txn, 0, (txn-1)/3, (txn-1)%3, 0, 1))
	}
	for name, c := range map[string]struct {
		l    []api.Rec
		want []int
	}{
		"none":                         {nil, nil},
		"none, an empty list":          {[]api.Rec{}, nil},
		"who has written":              {lab().Log[:1], []int{1}},
		"two that have":                {lab().Log[:3], []int{1, 2}},
		"who has a Commit does not":    {lab().Log[:4], []int{1}},
		"who is over does not":         {lab().Log[:5], []int{1}},
		"half taken back":              {lab().Log[:6], []int{1}},
		"all taken back, and no End":   {lab().Log[:7], []int{1}},
		"then it is over, and no more": {lab().Log[:8], nil},
		"rising, not as they come":     {lab().Log, []int{3, 4}},
		"a Commit alone":               {[]api.Rec{cm(9, 0)}, nil},
		"a Commit alone, and over":     {[]api.Rec{cm(9, 0), en(9, 1)}, nil},
		"all of them":                  {all, []int{1, 2, 3, 4, 5, 6, 7, 8, 9}},
		"all but one":                  {append(slices.Clone(all), cm(5, 5)), []int{1, 2, 3, 4, 6, 7, 8, 9}},
		"of a full log":                {writes(60), []int{1}},
	} {
		if got, e := Losers(c.l); e != api.OK || !slices.Equal(got, c.want) {
			t.Errorf("%s: %v %d, and must be %v", name, got, e, c.want)
		}
	}
}

func TestI1P1LosersIsRefused(t *testing.T) {
	for name, c := range map[string]struct {
		l    []api.Rec
		want api.Errno
	}{
		"many":                  {make([]api.Rec, 61), api.ErrMany},
		"many that are right":   {writes(61), api.ErrMany},
		"a kind":                {append(lab().Log, api.Rec{Txn: 5}), api.ErrKind},
		"a range":               {append(lab().Log, wr(5, 0, 3, 0, 0, 0)), api.ErrRange},
		"a form":                {append(lab().Log, en(4, 9)), api.ErrForm},
		"the first one's error": {[]api.Rec{wr(1, 0, 0, 0, 0, 5), en(1, 1), {}}, api.ErrForm},
	} {
		if got, e := Losers(c.l); e != c.want || len(got) != 0 {
			t.Errorf("%s: %v %d, and must be %d", name, got, e, c.want)
		}
	}
}

func TestI2Redo(t *testing.T) {
	now := pages{pg(9, 8, 0, 0), pg(11, 0, 9, 0)}
	full := api.World{Log: writes(60), Safe: 60}
	for name, c := range map[string]struct {
		w    api.World
		want pages
		done int
	}{
		"nothing lies there":             {with(lab(), pages{}, 11), now, 7},
		"a page, but for one record":     {with(lab(), lab().Disk, 11), now, 6},
		"a page, from the first on":      {with(lab(), pages{pg(1, 5, 0, 0)}, 11), now, 6},
		"a page, from its midst on":      {with(lab(), pages{pg(6, 5, 0, 0)}, 11), now, 4},
		"noughts, but from a record on":  {with(lab(), pages{pg(7, 0, 0, 0)}, 11), now, 3},
		"two pages, each from its own":   {with(lab(), pages{pg(3, 5, 7, 0), pg(2, 0, 6, 0)}, 11), now, 4},
		"all lies there":                 {with(lab(), now, 11), now, 0},
		"the beginning":                  {world.Begin(), pages{}, 0},
		"no record turns a page":         {api.World{Log: []api.Rec{cm(1, 0), en(1, 1)}, Safe: 2}, pages{}, 0},
		"a Write that turns to the same": {api.World{Log: []api.Rec{wr(1, 0, 2, 0, 0, 0)}, Safe: 1}, pages{2: pg(1, 0, 0, 0)}, 1},
		"a full log":                     {full, pages{2: pg(60, 0, 0, 60)}, 60},
		"a full log, its last record":    {with(full, pages{2: pg(59, 0, 0, 59)}, 60), pages{2: pg(60, 0, 0, 60)}, 1},
	} {
		if got, done, e := Redo(c.w); e != api.OK || got != c.want || done != c.done {
			t.Errorf("%s: %v %d %d, and must be %v %d", name, got, done, e, c.want, c.done)
		}
	}
}

func TestI2P1RedoOfWhatIsNotAllSafe(t *testing.T) {
	for safe := range len(lab().Log) {
		if got, n, e := Redo(with(lab(), pages{}, safe)); e != api.ErrForm || n != 0 || got != (pages{}) {
			t.Errorf("%d are safe: %v %d %d", safe, got, n, e)
		}
	}
	if _, _, e := Redo(api.World{Log: writes(60), Safe: 59}); e != api.ErrForm {
		t.Errorf("but one of a full log: %d", e)
	}
	if _, _, e := Redo(api.World{Log: []api.Rec{cm(10, 0)}}); e != api.ErrRange {
		t.Errorf("the log's error stands ahead of it: %d", e)
	}
}

func TestI3RedoTellsWhatTheLogTells(t *testing.T) {
	l := lab().Log
	for n := range len(l) + 1 {
		want, _ := log.Pages(l[:n])
		for lies := range (n + 1) * (n + 1) {
			one, _ := log.Pages(l[:lies%(n+1)])
			two, _ := log.Pages(l[:lies/(n+1)])
			// A page may lie there as it was behind any record; its Last tells behind which.
			w := api.World{Disk: pages{one[0], two[1], one[2]}, Log: l[:n], Safe: n}
			if got, _, e := Redo(w); e != api.OK || got != want {
				t.Errorf("of %v: %v %d, and the log tells %v", w, got, e, want)
			}
		}
	}
}

func TestI1I2P2OnlyRead(t *testing.T) {
	room := append(lab().Log, en(9, 10), cm(8, 0))
	was := slices.Clone(room)
	w := lab()
	w.Log = room[:11]
	got, e := Crash(w)
	Losers(w.Log)
	Redo(w)
	Redo(with(w, w.Disk, 11))
	for n := range got.Log {
		got.Log[n].New = 50
	}
	_ = append(got.Log, api.Rec{Kind: 50}, api.Rec{Kind: 50})
	if e != api.OK || !slices.Equal(room, was) || w.Disk != lab().Disk || w.Safe != 6 {
		t.Errorf("%d; what was handed in was changed: %v, %v", e, w, room)
	}
	got, _ = Crash(w)
	clear(room)
	if !slices.Equal(got.Log, lab().Log[:6]) {
		t.Errorf("a later change is seen: %v", got.Log)
	}
	if behind := got.Log[:cap(got.Log)][len(got.Log):]; slices.ContainsFunc(behind, func(r api.Rec) bool { return r != api.Rec{} }) {
		t.Errorf("what was lost lies behind the answer: %v", behind)
	}
}

func TestI1I2P3TheSameAgain(t *testing.T) {
	safe := with(lab(), lab().Disk, 11)
	for range 3 {
		losers, _ := Losers(lab().Log)
		losers[0] = 7
		Redo(with(lab(), pages{}, 11))
		Crash(safe)
		Losers(nil)
		if got, e := Crash(lab()); e != api.OK || !same(got, api.World{Disk: lab().Disk, Log: lab().Log[:6], Safe: 6}) {
			t.Errorf("Crash is %v %d", got, e)
		}
		if got, e := Losers(lab().Log); e != api.OK || !slices.Equal(got, []int{3, 4}) {
			t.Errorf("Losers is %v %d", got, e)
		}
		if got, n, e := Redo(safe); e != api.OK || n != 6 || got != (pages{pg(9, 8, 0, 0), pg(11, 0, 9, 0)}) {
			t.Errorf("Redo is %v %d %d", got, n, e)
		}
	}
}
