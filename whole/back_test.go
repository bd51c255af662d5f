package whole

import (
	"testing"

	"croft/api"
	"croft/flush"
	"croft/log"
	"croft/model"
	"croft/roll"
	"croft/world"
)

func TestG1DrawnWorlds(t *testing.T) {
	d := draw(21)
	told := map[api.Errno]int{}
	for i := range 400 {
		w := d.world()
		if i%10 == 0 {
			w = turned(&d, w)
		}
		for range 12 {
			txn := d.number(1, api.MaxTxns)
			r, e := stepOf(w.Log, txn)
			if got, f := roll.Step(w.Log, txn); f != e || got != r {
				t.Fatalf("Step(%v, %d) is %v %d, and must be %v %d", w.Log, txn, got, f, r, e)
			}
			want, e := abortOf(w, txn)
			if got, f := roll.Abort(w, txn); f != e || !same(got, want) {
				t.Fatalf("Abort(%v, %d) is %v %d, and must be %v %d", w, txn, got, f, want, e)
			}
			told[e]++
		}
	}
	for _, e := range []api.Errno{api.OK, api.ErrForm, api.ErrMany, api.ErrRange, api.ErrOver, api.ErrNone} {
		if told[e] < 50 {
			t.Errorf("%d was drawn %d times alone", e, told[e])
		}
	}
}

func TestG1WhoAbortsHasTurnedNothing(t *testing.T) {
	d := draw(23)
	gone := 0
	for range 300 {
		w := d.world()
		for txn := 1; txn <= api.MaxTxns; txn++ {
			x, e := roll.Abort(w, txn)
			if e != api.OK {
				continue
			}
			gone++
			if e := world.Check(x); e != api.OK || x.Disk != w.Disk || x.Safe != w.Safe {
				t.Fatalf("behind the Abort of %d in %v: %v, and that is %d", txn, w, x, e)
			}
			want := pagesOf(w.Log)
			first := map[[2]int]int{} // what was there ahead of each cell's first Write that stands
			for _, r := range standing(w.Log, txn) {
				if _, ok := first[[2]int{r.Page, r.Cell}]; !ok {
					first[[2]int{r.Page, r.Cell}] = r.Old
				}
			}
			for at, old := range first {
				want[at[0]].Cells[at[1]] = old
			}
			pages, _ := log.Pages(x.Log)
			for i := range pages {
				if pages[i].Cells != want[i].Cells {
					t.Fatalf("behind the Abort of %d in %v page %d is %v, and must be %v", txn, w, i, pages[i].Cells, want[i].Cells)
				}
			}
			before, _ := model.Cells(w.Log)
			if after, _ := model.Cells(x.Log); after != before {
				t.Fatalf("behind the Abort of %d in %v %v must be, and it was %v", txn, w, after, before)
			}
		}
	}
	if gone < 100 {
		t.Errorf("only %d were taken back", gone)
	}
}

func TestH1H2DrawnWorlds(t *testing.T) {
	d := draw(25)
	told := map[api.Errno]int{}
	for i := range 400 {
		w := d.world()
		if i%4 == 0 {
			w = turned(&d, w)
		}
		for range 12 {
			n, page := d.number(0, len(w.Log)), d.number(0, api.Pages-1)
			want, e := syncOf(w, n)
			got, f := flush.Sync(w, n)
			if f != e || !same(got, want) {
				t.Fatalf("Sync(%v, %d) is %v %d, and must be %v %d", w, n, got, f, want, e)
			}
			told[e]++
			if f == api.OK && world.Check(got) != api.OK {
				t.Fatalf("Sync(%v, %d) is not right: %v", w, n, got)
			}
			want, e = layOf(w, page)
			got, f = flush.Page(w, page)
			if f != e || !same(got, want) {
				t.Fatalf("Page(%v, %d) is %v %d, and must be %v %d", w, page, got, f, want, e)
			}
			told[e]++
			if f == api.OK && world.Check(got) != api.OK {
				t.Fatalf("Page(%v, %d) is not right: %v", w, page, got)
			}
		}
	}
	for _, e := range []api.Errno{api.OK, api.ErrForm, api.ErrRange} {
		if told[e] < 50 {
			t.Errorf("%d was drawn %d times alone", e, told[e])
		}
	}
}
