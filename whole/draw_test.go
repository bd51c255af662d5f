package whole

import (
	"croft/api"
	"croft/log"
)

// draw: numbers that are the same each time.
type draw uint64

func (d *draw) n(n int) int {
	*d = *d*6364136223846793005 + 1442695040888963407
	return int(uint64(*d) >> 33 % uint64(n))
}

// number: one from low to high, or, once in a while, none of these.
func (d *draw) number(low, high int) int {
	if d.n(25) == 0 {
		return []int{low - 1, high + 1, -1 << 40, 1 << 40}[d.n(4)]
	}
	return low + d.n(high-low+1)
}

// record: one that the draw has of a Txn, and that is likely to be right behind the log.
func (d *draw) record(l []api.Rec) api.Rec {
	txn := 1 + d.n(api.MaxTxns)
	r := api.Rec{Kind: []int{1, 1, 1, 2, 3, 3, 4}[d.n(7)], Txn: txn, Prev: lastOf(l, txn)}
	stand := standing(l, txn)
	switch {
	case r.Kind == api.Write:
		r.Page, r.Cell, r.New = d.n(api.Pages), d.n(api.Cells), d.n(api.MaxVal+1)
		r.Old = pagesOf(l)[r.Page].Cells[r.Cell]
	case r.Kind == api.Back && len(stand) > 0:
		x := stand[len(stand)-1]
		r.Page, r.Cell, r.Old, r.New, r.Next = x.Page, x.Cell, x.New, x.Old, x.Prev
	}
	return r
}

// log: a right log of that many records, or fewer.
func (d *draw) log(size int) []api.Rec {
	var l []api.Rec
	for tries := 0; len(l) < size && tries < 10*size; tries++ {
		if more := append(l[:len(l):len(l)], d.record(l)); log.Check(more) == api.OK {
			l = more
		}
	}
	return l
}

// world: a right world: so many records are safe, and each page lies on the disk as it was behind one of these.
func (d *draw) world() api.World {
	w := api.World{Log: d.log(d.n(api.MaxLog + 1))}
	if d.n(4) == 0 { // the bound of the log is near
		w.Log = padded(w.Log, api.MaxLog-d.n(4))
	}
	w.Safe = d.n(len(w.Log) + 1)
	for i := range w.Disk {
		w.Disk[i] = pagesOf(w.Log[:d.n(w.Safe+1)])[i]
	}
	return w
}

// padded: the log with Writes of one Txn behind all, till it has that many records; as it is, if no Txn may write.
func padded(l []api.Rec, size int) []api.Rec {
	for txn := 1; txn <= api.MaxTxns; txn++ {
		for at := range api.Pages * api.Cells {
			r := api.Rec{Kind: api.Write, Txn: txn, Prev: lastOf(l, txn), Page: at / api.Cells, Cell: at % api.Cells}
			r.Old = pagesOf(l)[r.Page].Cells[r.Cell]
			r.New = r.Old
			for len(l) < size && log.Check(append(l[:len(l):len(l)], r)) == api.OK {
				l = append(l, r)
				r.Prev = len(l)
			}
		}
	}
	return l
}
