// Package office has the desk at which a world is worked on: its log's book lies open there, beside what lies on the disk.
package office

import (
	"slices"

	"croft/api"
	"croft/ask"
	"croft/book"
	"croft/log"
)

// Desk is a right world that is worked on. What the log tells (Pages, Txns, Holds, Size) is the book's, and the desk has it as its own, so that nothing is told twice.
type Desk struct {
	*book.Book
	Disk [api.Pages]api.Page
	Log  []api.Rec
	Safe int
}

// Open lays the world on a desk, or tells why it is not right. The log is copied: who opens goes on to put records behind it, and the room there is the caller's.
func Open(w api.World) (*Desk, api.Errno) {
	b, e := book.Read(w.Log)
	if e != api.OK {
		return nil, e
	}
	if ask.Outside(0, len(w.Log), w.Safe) {
		return nil, api.ErrRange
	}
	d := &Desk{Book: b, Disk: w.Disk, Log: slices.Clone(w.Log), Safe: w.Safe}
	for at := range d.Disk {
		if d.untold(at) {
			return nil, api.ErrForm
		}
	}
	return d, api.OK
}

// Do does the job on a desk with that world: the world then. With an error there is none.
func Do(w api.World, job func(d *Desk) api.Errno) (api.World, api.Errno) {
	d, e := Open(w)
	if e != api.OK {
		return api.World{}, e
	}
	if e := job(d); e != api.OK {
		return api.World{}, e
	}
	return api.World{Disk: d.Disk, Log: d.Log, Safe: d.Safe}, api.OK
}

// Room tells whether the log may have so many records more.
func (d *Desk) Room(more int) bool {
	return d.Size+more <= api.MaxLog
}

// Add puts the record behind all; with an error the desk is as it was.
func (d *Desk) Add(r api.Rec) api.Errno {
	if e := d.Put(r); e != api.OK {
		return e
	}
	d.Log = append(d.Log, r)
	return api.OK
}

// Secure has the first n records safe; what was safe stays so.
func (d *Desk) Secure(n int) {
	if n > d.Safe {
		d.Safe = n
	}
}

// Lay lays those pages on the disk as they are now; with an error the desk is as it was. The log goes there ahead of each, so that nothing lies on the disk that the safe log does not tell of.
func (d *Desk) Lay(pages ...int) api.Errno {
	if ask.Outside(0, api.Pages-1, pages...) {
		return api.ErrRange
	}
	for _, at := range pages {
		d.Secure(d.Pages[at].Last)
		d.Disk[at] = d.Pages[at]
	}
	return api.OK
}

// untold tells whether that page of Disk is not what the safe log tells of it, up to the page's own Last.
func (d *Desk) untold(at int) bool {
	p := d.Disk[at]
	return ask.Any(
		func() bool { return ask.Outside(0, d.Safe, p.Last) },
		func() bool { return p != d.pageBehind(at, p.Last) },
	)
}

// pageBehind is that page behind the first n records. There is no error to look at: wherever a right log is cut, it is right.
func (d *Desk) pageBehind(at, n int) api.Page {
	pages, _ := log.Pages(d.Log[:n])
	return pages[at]
}
