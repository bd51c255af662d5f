// Package log: logs: see doc/03-log.md.
package log

import (
	"croft/api"
	"croft/ask"
	"croft/book"
)

// Check: is the log right?
func Check(l []api.Rec) api.Errno {
	_, e := book.Read(l)
	return e
}

// Pages: the pages behind the log's last record.
func Pages(l []api.Rec) ([api.Pages]api.Page, api.Errno) {
	b, e := book.Read(l)
	if e != api.OK {
		return [api.Pages]api.Page{}, e
	}
	return b.Pages, api.OK
}

// State: how far the Txn has come, and the number of its last record.
func State(l []api.Rec, txn int) (int, int, api.Errno) {
	b, e := book.Read(l)
	if e != api.OK {
		return 0, 0, e
	}
	if ask.Outside(1, api.MaxTxns, txn) {
		return 0, 0, api.ErrRange
	}
	t := b.Txns[txn]
	return t.State, t.Last, api.OK
}
