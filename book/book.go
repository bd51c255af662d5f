// Package book is the log's book: what a log tells, record by record, of pages, of Txns, and of who has which cell.
package book

import (
	"croft/api"
	"croft/ask"
	"croft/page"
	"croft/rec"
)

// Place is where a cell is.
type Place struct{ Page, Cell int }

// Hold is who has a cell, and by how many Writes of it that stand: a Txn may write its own cell again.
type Hold struct{ Txn, Writes int }

// Txn is how far a Txn has come.
type Txn struct {
	State  int       // the kind of its last record (0: there is none), for a right log's last record of a Txn tells all that the ones ahead do
	Last   int       // the number of its last record
	Stands []api.Rec // its Writes that stand, the last one last
}

// Book is what the records that were put into it tell.
type Book struct {
	Pages [api.Pages]api.Page
	Txns  map[int]Txn
	Holds map[Place]Hold
	Size  int // how many records there are
}

// New is the book of a log without records.
func New() *Book {
	return &Book{Txns: map[int]Txn{}, Holds: map[Place]Hold{}}
}

// Read is the book of that log, or the error of the first record that is not right.
func Read(l []api.Rec) (*Book, api.Errno) {
	if len(l) > api.MaxLog {
		return nil, api.ErrMany
	}
	b := New()
	for _, r := range l {
		if e := b.Put(r); e != api.OK {
			return nil, e
		}
	}
	return b, api.OK
}

// Put puts the record behind all; with an error the book is as it was.
func (b *Book) Put(r api.Rec) api.Errno {
	n := b.Size + 1
	if e := rec.Check(n, r); e != api.OK {
		return e
	}
	if b.mayNotFollow(r) {
		return api.ErrForm
	}
	b.turn(n, r)
	b.hold(r)
	b.Txns[r.Txn] = b.Txns[r.Txn].with(n, r)
	b.Size = n
	return api.OK
}

// mayNotFollow is asked of records that are right by themselves.
func (b *Book) mayNotFollow(r api.Rec) bool {
	t := b.Txns[r.Txn]
	return ask.Any(
		func() bool { return r.Prev != t.Last },
		func() bool { return !t.allows(r.Kind) },
		func() bool { return r.Kind == api.Write && b.clashes(r) },
		func() bool { return r.Kind == api.Back && r != t.Back() },
	)
}

// clashes tells whether a Write misses what the cell is, or another Txn has the cell.
func (b *Book) clashes(r api.Rec) bool {
	return ask.Any(
		func() bool { return r.Old != b.Pages[r.Page].Cells[r.Cell] },
		func() bool { return b.Busy(placeOf(r), r.Txn) },
	)
}

// Busy tells whether another Txn than that one has a Write of the cell that stands.
func (b *Book) Busy(at Place, txn int) bool {
	h := b.Holds[at]
	return h.Writes > 0 && h.Txn != txn
}

func (b *Book) turn(n int, r api.Rec) {
	if !rec.Turns(r) {
		return
	}
	// There is no error to look at: what Set asks for, the record's own check has asked for.
	b.Pages[r.Page], _ = page.Set(b.Pages[r.Page], r.Cell, r.New, n)
}

// hold keeps who has which cell; it comes ahead of the Txn's own change, whose Writes that stand an End lets go.
func (b *Book) hold(r api.Rec) {
	switch r.Kind {
	case api.Write:
		h := b.Holds[placeOf(r)]
		b.Holds[placeOf(r)] = Hold{Txn: r.Txn, Writes: h.Writes + 1}
	case api.Back:
		b.letGo(r)
	case api.End:
		for _, w := range b.Txns[r.Txn].Stands {
			b.letGo(w)
		}
	}
}

func (b *Book) letGo(r api.Rec) {
	h := b.Holds[placeOf(r)]
	h.Writes--
	if h.Writes > 0 {
		b.Holds[placeOf(r)] = h
	} else {
		delete(b.Holds, placeOf(r))
	}
}

func placeOf(r api.Rec) Place {
	return Place{Page: r.Page, Cell: r.Cell}
}
