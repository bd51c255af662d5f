package roll

import (
	"math"
	"slices"
	"testing"

	"croft/api"
	"croft/log"
	"croft/model"
	"croft/work"
	"croft/world"
)

func wr(txn, prev, at, cell, was, now int) api.Rec {
	return api.Rec{Kind: api.Write, Txn: txn, Prev: prev, Page: at, Cell: cell, Old: was, New: now}
}

func bk(txn, prev, at, cell, was, now, next int) api.Rec {
	return api.Rec{Kind: api.Back, Txn: txn, Prev: prev, Page: at, Cell: cell, Old: was, New: now, Next: next}
}

func cm(txn, prev int) api.Rec { return api.Rec{Kind: api.Commit, Txn: txn, Prev: prev} }

func en(txn, prev int) api.Rec { return api.Rec{Kind: api.End, Txn: txn, Prev: prev} }

// lab: of the Txns, 1 is over without a Commit, 2 is over with one, 3 has written one cell twice and another one, 4 has a Commit and no End, 5 is half taken back, 6 is taken back and has no End, 8 has a Commit alone; 7 and 9 have nothing.
func lab() api.World {
	return api.World{
		Disk: [api.Pages]api.Page{1: {Cells: [api.Cells]int{0, 6, 0}, Last: 3}},
		Log: []api.Rec{
			wr(1, 0, 0, 0, 0, 5), bk(1, 1, 0, 0, 5, 0, 0), wr(2, 0, 1, 1, 0, 6), cm(2, 3), en(2, 4), en(1, 2),
			wr(3, 0, 1, 1, 6, 8), wr(4, 0, 2, 0, 0, 4), wr(3, 7, 2, 2, 0, 3), cm(4, 8), wr(3, 9, 1, 1, 8, 9),
			wr(5, 0, 0, 1, 0, 1), wr(5, 12, 0, 2, 0, 2), bk(5, 13, 0, 2, 2, 0, 12),
			wr(6, 0, 0, 0, 0, 7), bk(6, 15, 0, 0, 7, 0, 0),
			cm(8, 0),
		},
		Safe: 4,
	}
}

func same(a, b api.World) bool {
	return a.Disk == b.Disk && a.Safe == b.Safe && slices.Equal(a.Log, b.Log)
}

// behind: that world with those records behind all, and with so many safe.
func behind(w api.World, safe int, more ...api.Rec) api.World {
	return api.World{Disk: w.Disk, Log: slices.Concat(w.Log, more), Safe: safe}
}

// writes: a world of n records of 1, all of them Writes.
func writes(n int) api.World {
	w := api.World{}
	for i := range n {
		w.Log = append(w.Log, wr(1, i, 0, 0, i, i+1))
	}
	return w
}

func TestG1Step(t *testing.T) {
	for name, c := range map[string]struct {
		l    []api.Rec
		txn  int
		want api.Rec
	}{
		"a Write alone":                 {[]api.Rec{wr(9, 0, 2, 2, 0, 99)}, 9, bk(9, 1, 2, 2, 99, 0, 0)},
		"a Write that turns nothing":    {[]api.Rec{wr(1, 0, 0, 0, 0, 0)}, 1, bk(1, 1, 0, 0, 0, 0, 0)},
		"the last of several Writes":    {lab().Log, 3, bk(3, 11, 1, 1, 9, 8, 9)},
		"one more, of one half taken":   {lab().Log, 5, bk(5, 14, 0, 1, 1, 0, 0)},
		"nothing stands: its End":       {lab().Log, 6, en(6, 16)},
		"the log was cut ahead of that": {lab().Log[:9], 3, bk(3, 9, 2, 2, 3, 0, 7)},
		"behind a full log a Back":      {writes(60).Log, 1, bk(1, 60, 0, 0, 60, 59, 59)},
		"behind a full log an End":      {append(writes(58).Log, wr(2, 0, 1, 1, 0, 1), bk(2, 59, 1, 1, 1, 0, 0)), 2, en(2, 60)},
	} {
		if got, e := Step(c.l, c.txn); got != c.want || e != api.OK {
			t.Errorf("%s: %+v %d, and must be %+v", name, got, e, c.want)
		}
	}
}

// refused: what neither of the calls does, of the log alone.
func refused() map[string]struct {
	l    []api.Rec
	txn  int
	want api.Errno
} {
	return map[string]struct {
		l    []api.Rec
		txn  int
		want api.Errno
	}{
		"no Txn":          {lab().Log, 0, api.ErrRange},
		"a Txn below":     {lab().Log, -1, api.ErrRange},
		"a Txn far below": {lab().Log, math.MinInt, api.ErrRange},
		"a Txn too great": {lab().Log, 10, api.ErrRange},
		"a Txn far above": {lab().Log, math.MaxInt, api.ErrRange},

		"it has nothing":         {lab().Log, 7, api.ErrNone},
		"the last has nothing":   {lab().Log, 9, api.ErrNone},
		"nobody has anything":    {nil, 1, api.ErrNone},
		"none, an empty list":    {[]api.Rec{}, 1, api.ErrNone},
		"over without a commit":  {lab().Log, 1, api.ErrOver},
		"over with a commit":     {lab().Log, 2, api.ErrOver},
		"behind its commit":      {lab().Log, 4, api.ErrOver},
		"behind a commit alone":  {lab().Log, 8, api.ErrOver},
		"over with no write":     {append(lab().Log, en(8, 17)), 8, api.ErrOver},
		"a number, the log full": {writes(60).Log, 10, api.ErrRange},
		"none, the log full":     {writes(60).Log, 2, api.ErrNone},
		"over, the log full":     {append(writes(59).Log, cm(1, 59)), 1, api.ErrOver},

		"the log's many, ahead of all":  {make([]api.Rec, 61), 0, api.ErrMany},
		"the log's kind, ahead of all":  {append(lab().Log, api.Rec{}), 0, api.ErrKind},
		"the log's form, ahead of all":  {append(lab().Log, en(3, 11)), 0, api.ErrForm},
		"the log's form, ahead of none": {append(lab().Log, wr(9, 0, 1, 1, 9, 1)), 7, api.ErrForm},
		"the log's range, before over":  {append(lab().Log, cm(10, 0)), 1, api.ErrRange},
	}
}

func TestG1P1StepIsRefused(t *testing.T) {
	for name, c := range refused() {
		if got, e := Step(c.l, c.txn); e != c.want || got != (api.Rec{}) {
			t.Errorf("%s: %+v %d, and must be %d", name, got, e, c.want)
		}
	}
}

func TestG1P1AbortIsRefused(t *testing.T) {
	for name, c := range refused() {
		if got, e := Abort(api.World{Log: c.l}, c.txn); e != c.want || !same(got, api.World{}) {
			t.Errorf("%s: %v %d, and must be %d", name, got, e, c.want)
		}
	}
	for name, c := range map[string]struct {
		w    api.World
		txn  int
		want api.Errno
	}{
		"the disk's error, ahead of all":  {api.World{Disk: [api.Pages]api.Page{{Last: 1}}, Log: lab().Log}, 0, api.ErrForm},
		"the disk's error, ahead of many": {api.World{Disk: [api.Pages]api.Page{{Last: 1}}, Log: writes(60).Log}, 1, api.ErrForm},
		"Safe's error, ahead of none":     {behind(lab(), -1), 7, api.ErrRange},
		"Safe's error, ahead of over":     {behind(lab(), 18), 1, api.ErrRange},

		"the log is full":             {writes(60), 1, api.ErrMany},
		"a record too many":           {writes(30), 1, api.ErrMany},
		"the End alone has no room":   {behind(writes(58), 58, wr(2, 0, 1, 1, 0, 1), bk(2, 59, 1, 1, 1, 0, 0)), 2, api.ErrMany},
		"there is room for Back only": {behind(writes(58), 0, wr(2, 0, 1, 1, 0, 1)), 2, api.ErrMany},
	} {
		if got, e := Abort(c.w, c.txn); e != c.want || !same(got, api.World{}) {
			t.Errorf("%s: %v %d, and must be %d", name, got, e, c.want)
		}
	}
}

func TestG1Abort(t *testing.T) {
	for name, c := range map[string]struct {
		txn  int
		want []api.Rec
	}{
		"one that writes":        {3, []api.Rec{bk(3, 11, 1, 1, 9, 8, 9), bk(3, 18, 2, 2, 3, 0, 7), bk(3, 19, 1, 1, 8, 6, 0), en(3, 20)}},
		"one half taken back":    {5, []api.Rec{bk(5, 14, 0, 1, 1, 0, 0), en(5, 18)}},
		"one that lacks its End": {6, []api.Rec{en(6, 16)}},
	} {
		got, e := Abort(lab(), c.txn)
		if want := behind(lab(), 4, c.want...); e != api.OK || !same(got, want) {
			t.Errorf("%s: %v %d, and must be %v", name, got, e, want)
		}
		if state, _, _ := log.State(got.Log, c.txn); state != 4 || world.Check(got) != api.OK {
			t.Errorf("%s: its state is %d, the world is %d", name, state, world.Check(got))
		}
		if _, e := Abort(got, c.txn); e != api.ErrOver {
			t.Errorf("%s: it is taken back again: %d", name, e)
		}
	}
}

func TestG1AbortIsStepOverAndOver(t *testing.T) {
	for _, txn := range []int{3, 5, 6} {
		want := lab()
		for {
			r, e := Step(want.Log, txn)
			if e != api.OK {
				break
			}
			want = behind(want, want.Safe, r)
		}
		if got, e := Abort(lab(), txn); e != api.OK || !same(got, want) {
			t.Errorf("%d: %v %d, and by steps it is %v", txn, got, e, want)
		}
	}
}

func TestG1TheLogsLastRecords(t *testing.T) {
	got, e := Abort(writes(29), 1)
	if e != api.OK || len(got.Log) != 59 || got.Log[58] != en(1, 58) {
		t.Errorf("29 Writes: %v %d", got, e)
	}
	w := behind(writes(29), 0, wr(2, 0, 1, 1, 0, 1))
	got, e = Abort(w, 1)
	if e != api.OK || len(got.Log) != 60 || got.Log[59] != en(1, 59) || world.Check(got) != api.OK {
		t.Errorf("the last room: %v %d", got, e)
	}
	if got, e := Abort(got, 2); e != api.ErrMany || !same(got, api.World{}) {
		t.Errorf("there is no room then: %v %d", got, e)
	}
}

func TestG1WhoAbortsHasTurnedNothing(t *testing.T) {
	w, _ := work.Write(world.Begin(), 1, 0, 0, 5)
	w, _ = work.Commit(w, 1)
	was, _ := world.Now(w)
	must, _ := model.Cells(w.Log)
	for val := range 9 {
		w, _ = work.Write(w, 2, val%3, val/3, 10+val)
		w, _ = work.Write(w, 2, 0, 0, 50+val)
	}
	w, e := Abort(w, 2)
	now, _ := world.Now(w)
	for i := range now {
		if now[i].Cells != was[i].Cells || e != api.OK {
			t.Errorf("page %d was %v, and is %v; %d", i, was[i], now[i], e)
		}
	}
	if wins, _ := model.Wins(w.Log); !slices.Equal(wins, []int{1}) {
		t.Errorf("there win %v", wins)
	}
	if cells, _ := model.Cells(w.Log); cells != must {
		t.Errorf("%v must be, and it was %v", cells, must)
	}
	if _, e := work.Write(w, 3, 2, 2, 9); e != api.OK {
		t.Errorf("its cell is not let go: %d", e)
	}
	if _, e := work.Write(w, 2, 2, 2, 9); e != api.ErrOver {
		t.Errorf("it may write then: %d", e)
	}
}

func TestG1P2OnlyRead(t *testing.T) {
	room := append(lab().Log, wr(9, 0, 1, 2, 0, 77), cm(9, 18), en(9, 19), cm(7, 0), en(7, 21))
	was := slices.Clone(room)
	w := lab()
	w.Log = room[:len(w.Log)]
	Step(w.Log, 3)
	got, e := Abort(w, 3)
	if e != api.OK || !slices.Equal(room, was) {
		t.Errorf("%d; the log, or the room behind it, was changed: %v", e, room)
	}
	for n := range got.Log {
		got.Log[n].New = 50
	}
	if !slices.Equal(room, was) {
		t.Errorf("the answer shares the log's memory")
	}
	got, _ = Abort(w, 3)
	want := slices.Clone(got.Log)
	clear(room)
	if !slices.Equal(got.Log, want) {
		t.Errorf("a later change is seen: %v", got.Log)
	}
}

func TestG1P3TheSameAgain(t *testing.T) {
	world1, _ := Abort(lab(), 3)
	rec1, _ := Step(lab().Log, 3)
	for range 3 {
		Abort(lab(), 5)
		Abort(world1, 3)
		Step(world1.Log, 5)
		if got, e := Abort(lab(), 3); e != api.OK || !same(got, world1) {
			t.Errorf("Abort was %v, and is %v %d", world1, got, e)
		}
		if got, e := Step(lab().Log, 3); e != api.OK || got != rec1 {
			t.Errorf("Step was %v, and is %v %d", rec1, got, e)
		}
	}
}
