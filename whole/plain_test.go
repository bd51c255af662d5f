package whole

import (
	"slices"

	"croft/api"
	"croft/log"
)

// Here the chapters' words are told a second time, plainly, each time from the log's beginning on. What the program tells is held against it.

func has(l []api.Rec, txn, kind int) bool {
	return slices.ContainsFunc(l, func(r api.Rec) bool { return r.Txn == txn && r.Kind == kind })
}

func lastOf(l []api.Rec, txn int) int {
	last := 0
	for i, r := range l {
		if r.Txn == txn {
			last = i + 1
		}
	}
	return last
}

// standing: the Writes of the Txn that were not taken back, if it has no End. (Of Backs each takes one.)
func standing(l []api.Rec, txn int) []api.Rec {
	var w []api.Rec
	for _, r := range l {
		switch {
		case r.Txn == txn && r.Kind == api.Write:
			w = append(w, r)
		case r.Txn == txn && r.Kind == api.Back:
			w = w[:len(w)-1]
		case r.Txn == txn && r.Kind == api.End:
			return nil
		}
	}
	return w
}

func pagesOf(l []api.Rec) [api.Pages]api.Page {
	var p [api.Pages]api.Page
	for i, r := range l {
		if r.Kind == api.Write || r.Kind == api.Back {
			p[r.Page].Cells[r.Cell] = r.New
			p[r.Page].Last = i + 1
		}
	}
	return p
}

// mustBe: chapter 4, cell by cell, from the log's end on.
func mustBe(l []api.Rec, page, cell int) int {
	for _, r := range slices.Backward(l) {
		if r.Kind == api.Write && r.Page == page && r.Cell == cell && has(l, r.Txn, api.Commit) {
			return r.New
		}
	}
	return 0
}

// checkWorld: chapter 5.
func checkWorld(w api.World) api.Errno {
	if e := log.Check(w.Log); e != api.OK {
		return e
	}
	if w.Safe < 0 || w.Safe > len(w.Log) {
		return api.ErrRange
	}
	for i, p := range w.Disk {
		if p.Last < 0 || p.Last > w.Safe || pagesOf(w.Log[:p.Last])[i] != p {
			return api.ErrForm
		}
	}
	return api.OK
}

// none: is the number not from low to high?
func none(n, low, high int) bool { return n < low || n > high }

// writeOf: chapter 6, Write.
func writeOf(w api.World, txn, page, cell, val int) (api.World, api.Errno) {
	if e := checkWorld(w); e != api.OK {
		return api.World{}, e
	}
	if none(txn, 1, 9) || none(page, 0, 2) || none(cell, 0, 2) || none(val, 0, 99) {
		return api.World{}, api.ErrRange
	}
	if has(w.Log, txn, api.Commit) || has(w.Log, txn, api.Back) || has(w.Log, txn, api.End) {
		return api.World{}, api.ErrOver
	}
	for other := 1; other <= 9; other++ {
		for _, r := range standing(w.Log, other) {
			if other != txn && r.Page == page && r.Cell == cell {
				return api.World{}, api.ErrBusy
			}
		}
	}
	if len(w.Log) == 60 {
		return api.World{}, api.ErrMany
	}
	old := pagesOf(w.Log)[page].Cells[cell]
	w.Log = slices.Concat(w.Log, []api.Rec{{Kind: 1, Txn: txn, Prev: lastOf(w.Log, txn), Page: page, Cell: cell, Old: old, New: val}})
	return w, api.OK
}

// commitOf: chapter 6, Commit.
func commitOf(w api.World, txn int) (api.World, api.Errno) {
	if e := checkWorld(w); e != api.OK {
		return api.World{}, e
	}
	switch {
	case none(txn, 1, 9):
		return api.World{}, api.ErrRange
	case lastOf(w.Log, txn) == 0:
		return api.World{}, api.ErrNone
	case has(w.Log, txn, api.Commit) || has(w.Log, txn, api.Back) || has(w.Log, txn, api.End):
		return api.World{}, api.ErrOver
	case len(w.Log) >= 59:
		return api.World{}, api.ErrMany
	}
	n := len(w.Log)
	w.Log = slices.Concat(w.Log, []api.Rec{{Kind: 2, Txn: txn, Prev: lastOf(w.Log, txn)}, {Kind: 4, Txn: txn, Prev: n + 1}})
	w.Safe = n + 1
	return w, api.OK
}

// stepOf: chapter 7, Step.
func stepOf(l []api.Rec, txn int) (api.Rec, api.Errno) {
	if e := log.Check(l); e != api.OK {
		return api.Rec{}, e
	}
	switch {
	case none(txn, 1, 9):
		return api.Rec{}, api.ErrRange
	case lastOf(l, txn) == 0:
		return api.Rec{}, api.ErrNone
	case has(l, txn, api.Commit) || has(l, txn, api.End):
		return api.Rec{}, api.ErrOver
	}
	stand := standing(l, txn)
	if len(stand) == 0 {
		return api.Rec{Kind: 4, Txn: txn, Prev: lastOf(l, txn)}, api.OK
	}
	x := stand[len(stand)-1]
	return api.Rec{Kind: 3, Txn: txn, Prev: lastOf(l, txn), Page: x.Page, Cell: x.Cell, Old: x.New, New: x.Old, Next: x.Prev}, api.OK
}

// abortOf: chapter 7, Abort.
func abortOf(w api.World, txn int) (api.World, api.Errno) {
	if e := checkWorld(w); e != api.OK {
		return api.World{}, e
	}
	if _, e := stepOf(w.Log, txn); e != api.OK {
		return api.World{}, e
	}
	for !has(w.Log, txn, api.End) {
		r, _ := stepOf(w.Log, txn)
		if len(w.Log) == 60 {
			return api.World{}, api.ErrMany
		}
		w.Log = slices.Concat(w.Log, []api.Rec{r})
	}
	return w, api.OK
}

// syncOf: chapter 8, Sync.
func syncOf(w api.World, n int) (api.World, api.Errno) {
	if e := checkWorld(w); e != api.OK {
		return api.World{}, e
	}
	if none(n, 0, len(w.Log)) {
		return api.World{}, api.ErrRange
	}
	w.Safe = max(w.Safe, n)
	return w, api.OK
}

// layOf: chapter 8, Page.
func layOf(w api.World, page int) (api.World, api.Errno) {
	if e := checkWorld(w); e != api.OK {
		return api.World{}, e
	}
	if none(page, 0, 2) {
		return api.World{}, api.ErrRange
	}
	w.Disk[page] = pagesOf(w.Log)[page]
	w.Safe = max(w.Safe, w.Disk[page].Last)
	return w, api.OK
}

// crashOf: chapter 9, Crash.
func crashOf(w api.World) (api.World, api.Errno) {
	if e := checkWorld(w); e != api.OK {
		return api.World{}, e
	}
	w.Log = slices.Clone(w.Log[:w.Safe])
	return w, api.OK
}

// losersOf: chapter 9, Losers, of a right log.
func losersOf(l []api.Rec) []int {
	var losers []int
	for txn := 1; txn <= 9; txn++ {
		if lastOf(l, txn) > 0 && !has(l, txn, api.Commit) && !has(l, txn, api.End) {
			losers = append(losers, txn)
		}
	}
	return losers
}

// redoOf: chapter 9, Redo: so many records turn a page behind what lies of it.
func redoOf(w api.World) ([api.Pages]api.Page, int, api.Errno) {
	if e := checkWorld(w); e != api.OK {
		return [api.Pages]api.Page{}, 0, e
	}
	if w.Safe != len(w.Log) {
		return [api.Pages]api.Page{}, 0, api.ErrForm
	}
	done := 0
	for i, r := range w.Log {
		if (r.Kind == api.Write || r.Kind == api.Back) && i+1 > w.Disk[r.Page].Last {
			done++
		}
	}
	return pagesOf(w.Log), done, api.OK
}

// mendOf: chapter 10: so many records are put at most; those pages are laid; how many were put.
func mendOf(w api.World, most int, pages [api.Pages]bool) (api.World, int, api.Errno) {
	w, e := crashOf(w)
	if e != api.OK {
		return api.World{}, 0, e
	}
	var put []api.Rec
	for txn := 1; txn <= 9; txn++ {
		if has(w.Log, txn, api.Commit) && !has(w.Log, txn, api.End) {
			put = append(put, api.Rec{Kind: 4, Txn: txn, Prev: lastOf(w.Log, txn)})
		}
	}
	losers := losersOf(w.Log)
	slices.SortFunc(losers, func(a, b int) int { return lastOf(w.Log, b) - lastOf(w.Log, a) })
	// Whose last record has the greatest number, has it still behind its first step: so it is taken back to its End.
	for _, txn := range losers {
		prev := lastOf(w.Log, txn)
		for _, x := range slices.Backward(standing(w.Log, txn)) {
			put = append(put, api.Rec{Kind: 3, Txn: txn, Prev: prev, Page: x.Page, Cell: x.Cell, Old: x.New, New: x.Old, Next: x.Prev})
			prev = len(w.Log) + len(put)
		}
		put = append(put, api.Rec{Kind: 4, Txn: txn, Prev: prev})
	}
	put = put[:min(most, len(put))]
	if len(w.Log)+len(put) > 60 {
		return api.World{}, 0, api.ErrMany
	}
	w.Log = slices.Concat(w.Log, put)
	w.Safe = len(w.Log)
	for i, p := range pagesOf(w.Log) {
		if pages[i] {
			w.Disk[i] = p
		}
	}
	return w, len(put), api.OK
}
