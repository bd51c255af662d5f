// Package rec: records: see doc/02-rec.md.
package rec

import (
	"croft/api"
	"croft/ask"
)

// Check: is the record right, being the one with the number n?
func Check(n int, r api.Rec) api.Errno {
	switch {
	case ask.Outside(1, api.MaxLog, n):
		return api.ErrRange
	case ask.Outside(api.Write, api.End, r.Kind):
		return api.ErrKind
	case outOfBounds(n, r):
		return api.ErrRange
	case tellsTooMuch(r):
		return api.ErrForm
	}
	return api.OK
}

// Turns: does the record turn a cell?
func Turns(r api.Rec) bool {
	return r.Kind == api.Write || r.Kind == api.Back
}

// outOfBounds looks only at the numbers that a record of its kind tells: the others have an error of their own.
func outOfBounds(n int, r api.Rec) bool {
	return ask.Any(
		func() bool { return ask.Outside(1, api.MaxTxns, r.Txn) },
		func() bool { return ask.Outside(0, n-1, r.Prev) },
		func() bool { return Turns(r) && cellOutOfBounds(r) },
		func() bool { return r.Kind == api.Back && ask.Outside(0, n-1, r.Next) },
	)
}

func cellOutOfBounds(r api.Rec) bool {
	return ask.Any(
		func() bool { return ask.Outside(0, api.Pages-1, r.Page) },
		func() bool { return ask.Outside(0, api.Cells-1, r.Cell) },
		func() bool { return ask.Outside(0, api.MaxVal, r.Old, r.New) },
	)
}

func tellsTooMuch(r api.Rec) bool {
	return ask.Any(
		func() bool { return !Turns(r) && ask.Outside(0, 0, r.Page, r.Cell, r.Old, r.New) },
		func() bool { return r.Kind != api.Back && r.Next != 0 },
	)
}
