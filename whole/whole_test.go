package whole

import (
	"slices"
	"testing"

	"croft/api"
	"croft/log"
	"croft/model"
	"croft/work"
	"croft/world"
)

func same(a, b api.World) bool {
	return a.Disk == b.Disk && a.Safe == b.Safe && slices.Equal(a.Log, b.Log)
}

func TestD1DrawnLogs(t *testing.T) {
	d := draw(3)
	for range 400 {
		l := d.log(d.n(api.MaxLog + 1))
		var wins []int
		for _, r := range l {
			if r.Kind == api.Commit {
				wins = append(wins, r.Txn)
			}
		}
		if got, e := model.Wins(l); !slices.Equal(got, wins) || e != api.OK {
			t.Fatalf("Wins(%v) is %v %d, and must be %v", l, got, e, wins)
		}
		got, e := model.Cells(l)
		for i := range api.Pages * api.Cells {
			page, cell := i/api.Cells, i%api.Cells
			if want := mustBe(l, page, cell); got[page][cell] != want || e != api.OK {
				t.Fatalf("Cells(%v) is %v %d, and of page %d, cell %d, must be %d", l, got, e, page, cell, want)
			}
		}
	}
}

// turned: the world with one of its numbers turned.
func turned(d *draw, w api.World) api.World {
	w.Log = slices.Clone(w.Log)
	p := &w.Disk[d.n(api.Pages)]
	switch k := d.n(8); {
	case k == 0:
		w.Safe = d.number(0, len(w.Log))
	case k == 1 && len(w.Log) > 0:
		w.Log[d.n(len(w.Log))].New = d.number(0, api.MaxVal)
	case k == 2 && len(w.Log) > 0:
		w.Log = w.Log[:d.n(len(w.Log))]
	case k == 3 && len(w.Log) > 0:
		w.Log = w.Log[1:]
	case k < 6:
		p.Last = d.number(0, len(w.Log))
	default:
		p.Cells[d.n(api.Cells)] = d.number(0, api.MaxVal)
	}
	return w
}

func TestE1DrawnWorlds(t *testing.T) {
	d := draw(5)
	told := map[api.Errno]int{}
	for range 300 {
		w := d.world()
		if e := world.Check(w); e != api.OK {
			t.Fatalf("Check(%v) is %d", w, e)
		}
		for range 20 {
			x := turned(&d, w)
			want := checkWorld(x)
			told[want]++
			if e := world.Check(x); e != want {
				t.Fatalf("Check(%v) is %d, and must be %d", x, e, want)
			}
			var pages [api.Pages]api.Page
			if want == api.OK {
				pages = pagesOf(x.Log)
			}
			if p, e := world.Now(x); p != pages || e != want {
				t.Fatalf("Now(%v) is %v %d, and must be %v %d", x, p, e, pages, want)
			}
		}
	}
	for _, e := range []api.Errno{api.OK, api.ErrForm, api.ErrRange} {
		if told[e] < 100 {
			t.Errorf("%d was drawn %d times alone", e, told[e])
		}
	}
}

func TestF1DrawnWorlds(t *testing.T) {
	d := draw(9)
	told := map[api.Errno]int{}
	for i := range 400 {
		w := d.world()
		if i%10 == 0 {
			w = turned(&d, w)
		}
		for range 20 {
			txn, page, cell, val := d.number(1, api.MaxTxns), d.number(0, api.Pages-1), d.number(0, api.Cells-1), d.number(0, api.MaxVal)
			want, e := writeOf(w, txn, page, cell, val)
			if got, f := work.Write(w, txn, page, cell, val); f != e || !same(got, want) {
				t.Fatalf("Write(%v, %d, %d, %d, %d) is %v %d, and must be %v %d", w, txn, page, cell, val, got, f, want, e)
			}
			told[e]++
			want, e = commitOf(w, txn)
			if got, f := work.Commit(w, txn); f != e || !same(got, want) {
				t.Fatalf("Commit(%v, %d) is %v %d, and must be %v %d", w, txn, got, f, want, e)
			}
			told[e]++
		}
	}
	for _, e := range []api.Errno{api.OK, api.ErrForm, api.ErrMany, api.ErrRange, api.ErrBusy, api.ErrOver, api.ErrNone} {
		if told[e] < 50 {
			t.Errorf("%d was drawn %d times alone", e, told[e])
		}
	}
}

func TestD1IfNoTxnHangsThePagesAreWhatMustBe(t *testing.T) {
	d := draw(13)
	calm := 0
	for range 400 {
		l := d.log(api.MaxLog)
		for n := range len(l) + 1 {
			hangs := false
			for txn := 1; txn <= api.MaxTxns; txn++ {
				s, _, _ := log.State(l[:n], txn)
				hangs = hangs || s == 1 || s == 3
			}
			if hangs {
				continue
			}
			calm++
			pages, _ := log.Pages(l[:n])
			cells, _ := model.Cells(l[:n])
			for i, p := range pages {
				if p.Cells != cells[i] {
					t.Fatalf("of %v page %d is %v, and must be %v", l[:n], i, p.Cells, cells[i])
				}
			}
		}
	}
	if calm < 1000 {
		t.Errorf("only %d logs have none that hangs", calm)
	}
}

func TestF1WhoCommitsHasWonAndThatIsSafe(t *testing.T) {
	d := draw(17)
	won := 0
	for range 300 {
		w := d.world()
		for txn := 1; txn <= api.MaxTxns; txn++ {
			x, e := work.Commit(w, txn)
			if e != api.OK {
				continue
			}
			won++
			wins, _ := model.Wins(x.Log[:x.Safe])
			if e := world.Check(x); e != api.OK || wins[len(wins)-1] != txn {
				t.Fatalf("behind the Commit of %d in %v: %d, and there win %v", txn, w, e, wins)
			}
		}
	}
	if won < 100 {
		t.Errorf("only %d have won", won)
	}
}
