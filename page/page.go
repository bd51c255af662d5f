// Package page: pages: see doc/01-page.md.
package page

import (
	"croft/api"
	"croft/ask"
)

// Check: is the page right?
func Check(p api.Page) api.Errno {
	wrong := ask.Any(
		func() bool { return ask.Outside(0, api.MaxVal, p.Cells[:]...) },
		func() bool { return ask.Outside(0, api.MaxLog, p.Last) },
	)
	if wrong {
		return api.ErrRange
	}
	return api.OK
}

// Set: the page with that cell turned to val by the record rec.
func Set(p api.Page, cell, val, rec int) (api.Page, api.Errno) {
	if e := Check(p); e != api.OK {
		return api.Page{}, e
	}
	wrong := ask.Any(
		func() bool { return ask.Outside(0, api.Cells-1, cell) },
		func() bool { return ask.Outside(0, api.MaxVal, val) },
		func() bool { return ask.Outside(1, api.MaxLog, rec) },
	)
	if wrong {
		return api.Page{}, api.ErrRange
	}
	p.Cells[cell] = val
	p.Last = rec
	return p, api.OK
}

// Same: are the cells the same, whatever Last is?
func Same(a, b api.Page) bool {
	return a.Cells == b.Cells
}
