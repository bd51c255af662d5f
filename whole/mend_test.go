package whole

import (
	"slices"
	"testing"

	"croft/api"
	"croft/log"
	"croft/mend"
	"croft/model"
	"croft/scan"
	"croft/world"
)

// truths: a truth for each page.
func (d *draw) truths() [api.Pages]bool {
	var t [api.Pages]bool
	for i := range t {
		t[i] = d.n(2) == 0
	}
	return t
}

func cellsOf(p [api.Pages]api.Page) [api.Pages][api.Cells]int {
	var cells [api.Pages][api.Cells]int
	for i := range p {
		cells[i] = p[i].Cells
	}
	return cells
}

func TestI1I2I3DrawnWorlds(t *testing.T) {
	d := draw(31)
	told := map[api.Errno]int{}
	for i := range 800 {
		w := d.world()
		if i%2 == 0 {
			w = turned(&d, w)
		}
		want, e := crashOf(w)
		got, f := scan.Crash(w)
		if f != e || !same(got, want) {
			t.Fatalf("Crash(%v) is %v %d, and must be %v %d", w, got, f, want, e)
		}
		var losers []int
		fault := log.Check(w.Log)
		if fault == api.OK {
			losers = losersOf(w.Log)
		}
		if got, f := scan.Losers(w.Log); f != fault || !slices.Equal(got, losers) {
			t.Fatalf("Losers(%v) is %v %d, and must be %v %d", w.Log, got, f, losers, fault)
		}
		for _, x := range []api.World{w, got} {
			pages, n, e := redoOf(x)
			if p, k, f := scan.Redo(x); f != e || k != n || p != pages {
				t.Fatalf("Redo(%v) is %v %d %d, and must be %v %d %d", x, p, k, f, pages, n, e)
			}
			told[e]++
		}
	}
	for _, e := range []api.Errno{api.OK, api.ErrForm, api.ErrRange} {
		if told[e] < 20 {
			t.Errorf("%d was drawn %d times alone", e, told[e])
		}
	}
}

func TestJ1J2DrawnWorlds(t *testing.T) {
	d := draw(33)
	told := map[api.Errno]int{}
	for i := range 600 {
		w := d.world()
		if i%8 == 0 {
			w = turned(&d, w)
		}
		want, n, e := mendOf(w, 1000, [api.Pages]bool{true, true, true})
		if got, k, f := mend.All(w); f != e || k != n || !same(got, want) {
			t.Fatalf("All(%v) is %v %d %d, and must be %v %d %d", w, got, k, f, want, n, e)
		}
		told[e]++
		for range 4 {
			steps, pages := d.n(n+3), d.truths()
			want, _, e := mendOf(w, steps, pages)
			if got, f := mend.Half(w, steps, pages[:]); f != e || !same(got, want) {
				t.Fatalf("Half(%v, %d, %v) is %v %d, and must be %v %d", w, steps, pages, got, f, want, e)
			}
			told[e]++
		}
	}
	for _, e := range []api.Errno{api.OK, api.ErrForm, api.ErrMany, api.ErrRange} {
		if told[e] < 20 {
			t.Errorf("%d was drawn %d times alone", e, told[e])
		}
	}
}

func TestJ3HoweverOftenItCrashes(t *testing.T) {
	d := draw(35)
	mended := 0
	for range 300 {
		w := d.world()
		must, _ := model.Cells(w.Log[:w.Safe])
		all, put, e := mend.All(w)
		if e == api.OK && (cellsOf(all.Disk) != must || world.Check(all) != api.OK) {
			t.Fatalf("All(%v): %v lie there, and %v must be", w, all.Disk, must)
		}
		x := w
		for range 1 + d.n(5) {
			pages := d.truths()
			next, f := mend.Half(x, d.n(6), pages[:])
			if f == api.ErrMany && e == api.ErrMany {
				break
			}
			if f != api.OK || world.Check(next) != api.OK {
				t.Fatalf("Half(%v) is %v %d", x, next, f)
			}
			put -= len(next.Log) - x.Safe
			x = next
		}
		got, more, f := mend.All(x)
		if f != e || !same(got, all) || e == api.OK && more != put {
			t.Fatalf("of %v, mended half: All(%v) is %v %d %d, and must be %v %d %d", w, x, got, more, f, all, put, e)
		}
		if e == api.OK {
			mended++
		}
	}
	if mended < 100 {
		t.Errorf("only %d were mended", mended)
	}
}
