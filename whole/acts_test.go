package whole

import (
	"slices"
	"testing"

	"croft/act"
	"croft/api"
	"croft/mend"
	"croft/model"
	"croft/scan"
	"croft/world"
)

// act: one that is likely to be done in that world.
func (d *draw) act(w api.World) api.Act {
	kinds := []int{1, 1, 1, 1, 1, 1, 2, 2, 3, 4, 5, 5, 6}
	x := api.Act{Kind: kinds[d.n(len(kinds))], Txn: d.number(1, api.MaxTxns), Page: d.number(0, api.Pages-1), Cell: d.number(0, api.Cells-1), Val: d.number(0, api.MaxVal)}
	switch {
	case d.n(40) == 0:
		x.Kind = []int{0, 7, -1, 1 << 40}[d.n(4)]
	case x.Kind == api.ActSync:
		x.Val = d.number(0, len(w.Log))
	}
	return x
}

// doOf: chapter 11, Do.
func doOf(w api.World, x api.Act) (api.World, api.Errno) {
	switch x.Kind {
	case 1:
		return writeOf(w, x.Txn, x.Page, x.Cell, x.Val)
	case 2:
		return commitOf(w, x.Txn)
	case 3:
		return abortOf(w, x.Txn)
	case 4:
		return syncOf(w, x.Val)
	case 5:
		return layOf(w, x.Page)
	case 6:
		w, _, e := mendOf(w, 1000, [api.Pages]bool{true, true, true})
		return w, e
	}
	return api.World{}, api.ErrKind
}

// acts: so many acts, what is there behind them, and how many of them had no error.
func (d *draw) acts(size int) ([]api.Act, api.World, int) {
	var l []api.Act
	var w api.World
	done := 0
	for range size {
		x := d.act(w)
		l = append(l, x)
		if next, e := doOf(w, x); e == api.OK {
			w, done = next, done+1
		}
	}
	return l, w, done
}

func TestK1DrawnWorlds(t *testing.T) {
	d := draw(41)
	told := map[api.Errno]int{}
	for i := range 400 {
		w := d.world()
		if i%8 == 0 {
			w = turned(&d, w)
		}
		for range 20 {
			x := d.act(w)
			want, e := doOf(w, x)
			if got, f := act.Do(w, x); f != e || !same(got, want) {
				t.Fatalf("Do(%v, %v) is %v %d, and must be %v %d", w, x, got, f, want, e)
			}
			told[e]++
		}
	}
	for _, e := range []api.Errno{api.OK, api.ErrForm, api.ErrMany, api.ErrRange, api.ErrKind, api.ErrBusy, api.ErrOver, api.ErrNone} {
		if told[e] < 50 {
			t.Errorf("%d was drawn %d times alone", e, told[e])
		}
	}
}

func TestK1DrawnActs(t *testing.T) {
	d := draw(43)
	for range 300 {
		l, want, done := d.acts(d.n(api.MaxActs + 1))
		if got, n, e := act.All(l); e != api.OK || n != done || !same(got, want) {
			t.Fatalf("All(%v) is %v %d %d, and must be %v %d", l, got, n, e, want, done)
		}
	}
}

func TestK1WhoHasOnceCommittedHasWonForEver(t *testing.T) {
	d := draw(45)
	won := 0
	for range 200 {
		w := world.Begin()
		var committed []int
		for range 2 * api.MaxActs {
			x := d.act(w)
			next, e := act.Do(w, x)
			if e != api.OK {
				continue
			}
			w = next
			if x.Kind == api.ActCommit {
				committed = append(committed, x.Txn)
				won++
			}
			wins, _ := model.Wins(w.Log[:w.Safe])
			if !slices.Equal(wins, committed) {
				t.Fatalf("%v have committed, and %v have won in %v", committed, wins, w)
			}
			mended, _, e := mend.All(w)
			if e != api.OK {
				continue
			}
			if wins, _ := model.Wins(mended.Log); !slices.Equal(wins, committed) {
				t.Fatalf("%v have committed, and behind the crash of %v %v have won", committed, w, wins)
			}
		}
	}
	if won < 300 {
		t.Errorf("only %d have won", won)
	}
}

func TestWhatTheWholePromisesOfActs(t *testing.T) {
	d := draw(47)
	for range 300 {
		l, _, _ := d.acts(d.n(api.MaxActs + 1))
		w, _, _ := act.All(l)
		if e := world.Check(w); e != api.OK {
			t.Fatalf("behind %v: %v, and that is %d", l, w, e)
		}
		left, _ := scan.Crash(w)
		pages, _, e := scan.Redo(left)
		if e != api.OK || pages != pagesOf(left.Log) {
			t.Fatalf("behind %v Redo tells %v %d", l, pages, e)
		}
		must, _ := model.Cells(left.Log)
		crashed, e := act.Do(w, api.Act{Kind: api.ActCrash})
		if e == api.ErrMany {
			continue
		}
		now, _ := world.Now(crashed)
		if e != api.OK || cellsOf(now) != must || cellsOf(crashed.Disk) != must {
			t.Fatalf("behind %v, and a crash: %v, %v lie there, and %v must be", l, now, crashed.Disk, must)
		}
	}
}
