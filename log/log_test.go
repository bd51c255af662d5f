package log

import (
	"math"
	"slices"
	"testing"

	"croft/api"
)

func wr(txn, prev, at, cell, was, now int) api.Rec {
	return api.Rec{Kind: api.Write, Txn: txn, Prev: prev, Page: at, Cell: cell, Old: was, New: now}
}

func bk(txn, prev, at, cell, was, now, next int) api.Rec {
	return api.Rec{Kind: api.Back, Txn: txn, Prev: prev, Page: at, Cell: cell, Old: was, New: now, Next: next}
}

func cm(txn, prev int) api.Rec { return api.Rec{Kind: api.Commit, Txn: txn, Prev: prev} }

func en(txn, prev int) api.Rec { return api.Rec{Kind: api.End, Txn: txn, Prev: prev} }

// three Txns: 1 takes all back, 2 commits, 3 writes then.
func three() []api.Rec {
	return []api.Rec{
		wr(1, 0, 0, 0, 0, 5), wr(2, 0, 1, 1, 0, 6), wr(1, 1, 0, 1, 0, 7), cm(2, 2), en(2, 4),
		bk(1, 3, 0, 1, 7, 0, 1), bk(1, 6, 0, 0, 5, 0, 0), en(1, 7), wr(3, 0, 0, 0, 0, 8),
	}
}

// full: a right log of MaxLog records.
func full() []api.Rec {
	var l []api.Rec
	for n := 1; n <= api.MaxLog; n++ {
		l = append(l, wr(1, n-1, 0, 0, n-1, n))
	}
	return l
}

func behind(l []api.Rec, more ...api.Rec) []api.Rec { return slices.Concat(l, more) }

// with: the log with its record n changed.
func with(l []api.Rec, n int, change func(r *api.Rec)) []api.Rec {
	change(&l[n-1])
	return l
}

func TestC1RightLogs(t *testing.T) {
	for name, l := range map[string][]api.Rec{
		"none":                            nil,
		"empty":                           {},
		"three":                           three(),
		"full":                            full(),
		"commit without a write":          {cm(9, 0), en(9, 1)},
		"commit without an end":           {wr(1, 0, 0, 0, 0, 5), cm(1, 1)},
		"a write that changes nothing":    {wr(1, 0, 0, 0, 0, 0), bk(1, 1, 0, 0, 0, 0, 0), en(1, 2)},
		"its own cell again":              {wr(1, 0, 0, 0, 0, 5), wr(1, 1, 0, 0, 5, 8), bk(1, 2, 0, 0, 8, 5, 1), bk(1, 3, 0, 0, 5, 0, 0), en(1, 4)},
		"another's cell behind its end":   {wr(1, 0, 0, 0, 0, 5), cm(1, 1), en(1, 2), wr(2, 0, 0, 0, 5, 8)},
		"another's cell that was taken":   {wr(1, 0, 0, 0, 0, 5), wr(1, 1, 0, 1, 0, 6), bk(1, 2, 0, 1, 6, 0, 1), wr(2, 0, 0, 1, 0, 8)},
		"the same cell of another page":   {wr(1, 0, 0, 0, 0, 5), wr(2, 0, 1, 0, 0, 5), wr(3, 0, 2, 0, 0, 5)},
		"another cell of that page":       {wr(1, 0, 0, 0, 0, 5), wr(2, 0, 0, 1, 0, 5), wr(3, 0, 0, 2, 0, 5)},
		"next is the record that it says": {wr(1, 0, 0, 0, 0, 5), wr(2, 0, 1, 0, 0, 5), wr(1, 1, 0, 1, 0, 5), bk(1, 3, 0, 1, 5, 0, 1), bk(1, 4, 0, 0, 5, 0, 0)},
	} {
		if e := Check(l); e != api.OK {
			t.Errorf("%s: %d", name, e)
		}
	}
}

func TestC1LogsThatAreNotRight(t *testing.T) {
	for name, c := range map[string]struct {
		l    []api.Rec
		want api.Errno
	}{
		"too many":               {behind(full(), wr(1, 60, 0, 0, 60, 61)), api.ErrMany},
		"too many, and no kinds": {make([]api.Rec, 61), api.ErrMany},
		"no kind":                {make([]api.Rec, 60), api.ErrKind},
		"no such Txn":            {[]api.Rec{cm(10, 0)}, api.ErrRange},
		"prev is itself":         {[]api.Rec{cm(1, 1)}, api.ErrRange},
		"a value too great":      {[]api.Rec{wr(1, 0, 0, 0, 0, 100)}, api.ErrRange},
		"too much is told":       {[]api.Rec{{Kind: api.Commit, Txn: 1, Cell: 1}}, api.ErrForm},

		"prev is left out":       {with(three(), 3, func(r *api.Rec) { r.Prev = 0 }), api.ErrForm},
		"prev is another's":      {with(three(), 3, func(r *api.Rec) { r.Prev = 2 }), api.ErrForm},
		"prev is not the last":   {[]api.Rec{wr(1, 0, 0, 0, 0, 5), wr(1, 1, 0, 1, 0, 5), cm(1, 1)}, api.ErrForm},
		"prev of a first record": {[]api.Rec{cm(1, 0), cm(2, 1)}, api.ErrForm},

		"a write behind the end":     {[]api.Rec{cm(1, 0), en(1, 1), wr(1, 2, 0, 0, 0, 5)}, api.ErrForm},
		"a commit behind the end":    {[]api.Rec{cm(1, 0), en(1, 1), cm(1, 2)}, api.ErrForm},
		"a back behind the end":      {[]api.Rec{wr(1, 0, 0, 0, 0, 5), cm(1, 1), en(1, 2), bk(1, 3, 0, 0, 5, 0, 0)}, api.ErrForm},
		"an end behind the end":      {[]api.Rec{cm(1, 0), en(1, 1), en(1, 2)}, api.ErrForm},
		"a first record anew":        {[]api.Rec{cm(1, 0), en(1, 1), wr(1, 0, 0, 0, 0, 5)}, api.ErrForm},
		"a write behind the commit":  {[]api.Rec{cm(1, 0), wr(1, 1, 0, 0, 0, 5)}, api.ErrForm},
		"a commit behind the commit": {[]api.Rec{cm(1, 0), cm(1, 1)}, api.ErrForm},
		"a back behind the commit":   {[]api.Rec{wr(1, 0, 0, 0, 0, 5), cm(1, 1), bk(1, 2, 0, 0, 5, 0, 0)}, api.ErrForm},
		"a write behind a back":      {behind(three()[:6], wr(1, 6, 2, 2, 0, 1)), api.ErrForm},
		"a commit behind a back":     {behind(three()[:6], cm(1, 6)), api.ErrForm},
		"a commit behind all backs":  {behind(three()[:7], cm(1, 7)), api.ErrForm},

		"old is not what is there":        {[]api.Rec{wr(1, 0, 0, 0, 1, 5)}, api.ErrForm},
		"old is what was there":           {[]api.Rec{wr(1, 0, 0, 0, 0, 5), wr(1, 1, 0, 0, 0, 6)}, api.ErrForm},
		"old is what was taken back":      {behind(three()[:8], wr(3, 0, 0, 0, 5, 8)), api.ErrForm},
		"another's cell":                  {[]api.Rec{wr(1, 0, 0, 0, 0, 5), wr(2, 0, 0, 0, 5, 8)}, api.ErrForm},
		"another's cell, nothing changed": {[]api.Rec{wr(1, 0, 0, 0, 0, 0), wr(2, 0, 0, 0, 0, 8)}, api.ErrForm},
		"the cell of one with a commit":   {[]api.Rec{wr(1, 0, 0, 0, 0, 5), cm(1, 1), wr(2, 0, 0, 0, 5, 8)}, api.ErrForm},
		"the cell of one with a back":     {behind(three()[:6], wr(3, 0, 0, 0, 5, 8)), api.ErrForm},
		"a cell of which one write stands": {[]api.Rec{
			wr(1, 0, 0, 0, 0, 5), wr(1, 1, 0, 0, 5, 8), bk(1, 2, 0, 0, 8, 5, 1), wr(2, 0, 0, 0, 5, 8)}, api.ErrForm},

		"a back of nothing":             {[]api.Rec{bk(1, 0, 0, 0, 0, 0, 0)}, api.ErrForm},
		"a back of another's write":     {[]api.Rec{wr(1, 0, 0, 0, 0, 5), bk(2, 0, 0, 0, 5, 0, 0)}, api.ErrForm},
		"a back when none stands":       {behind(three()[:7], bk(1, 7, 0, 0, 0, 0, 0)), api.ErrForm},
		"a back of the first write":     {behind(three()[:5], bk(1, 3, 0, 0, 5, 0, 0)), api.ErrForm},
		"a back again":                  {behind(three()[:6], bk(1, 6, 0, 1, 7, 0, 1)), api.ErrForm},
		"a back with another page":      {with(three(), 6, func(r *api.Rec) { r.Page = 1 }), api.ErrForm},
		"a back with another cell":      {with(three(), 6, func(r *api.Rec) { r.Cell = 2 }), api.ErrForm},
		"a back with another old":       {with(three(), 6, func(r *api.Rec) { r.Old = 5 }), api.ErrForm},
		"a back with another new":       {with(three(), 6, func(r *api.Rec) { r.New = 1 }), api.ErrForm},
		"a back with another next":      {with(three(), 6, func(r *api.Rec) { r.Next = 0 }), api.ErrForm},
		"a back with itself as next":    {with(three(), 6, func(r *api.Rec) { r.Next = 3 }), api.ErrForm},
		"an end of nothing":             {[]api.Rec{en(1, 0)}, api.ErrForm},
		"an end behind a write":         {[]api.Rec{wr(1, 0, 0, 0, 0, 5), en(1, 1)}, api.ErrForm},
		"an end while one write stands": {behind(three()[:6], en(1, 6)), api.ErrForm},
	} {
		if e := Check(c.l); e != c.want {
			t.Errorf("%s: %d, and must be %d", name, e, c.want)
		}
	}
}

func TestC1TheFirstRecordsErrorIsTold(t *testing.T) {
	form, kind, far := en(1, 0), api.Rec{}, cm(10, 0)
	for _, c := range []struct {
		l    []api.Rec
		want api.Errno
	}{
		{[]api.Rec{form, kind, far}, api.ErrForm},
		{[]api.Rec{kind, far, form}, api.ErrKind},
		{[]api.Rec{far, form, kind}, api.ErrRange},
		{[]api.Rec{cm(1, 0), en(1, 1), far, form, kind}, api.ErrRange},
		{[]api.Rec{{Kind: api.Write, Txn: 1, Old: 1, New: 100}}, api.ErrRange}, // a record's own error is ahead of how it lies in the log
	} {
		if e := Check(c.l); e != c.want {
			t.Errorf("Check(%v) is %d, and must be %d", c.l, e, c.want)
		}
	}
}

func TestC2Pages(t *testing.T) {
	page := func(last, a, b, c int) api.Page { return api.Page{Cells: [api.Cells]int{a, b, c}, Last: last} }
	for _, c := range []struct {
		n    int
		want [api.Pages]api.Page
	}{
		{0, [api.Pages]api.Page{}},
		{1, [api.Pages]api.Page{page(1, 5, 0, 0)}},
		{2, [api.Pages]api.Page{page(1, 5, 0, 0), page(2, 0, 6, 0)}},
		{3, [api.Pages]api.Page{page(3, 5, 7, 0), page(2, 0, 6, 0)}},
		{5, [api.Pages]api.Page{page(3, 5, 7, 0), page(2, 0, 6, 0)}},
		{6, [api.Pages]api.Page{page(6, 5, 0, 0), page(2, 0, 6, 0)}},
		{8, [api.Pages]api.Page{page(7, 0, 0, 0), page(2, 0, 6, 0)}},
		{9, [api.Pages]api.Page{page(9, 8, 0, 0), page(2, 0, 6, 0)}},
	} {
		if got, e := Pages(three()[:c.n]); got != c.want || e != api.OK {
			t.Errorf("%d records: %v %d, and must be %v", c.n, got, e, c.want)
		}
	}
	if got, e := Pages(full()); got != ([api.Pages]api.Page{page(60, 60, 0, 0)}) || e != api.OK {
		t.Errorf("full: %v %d", got, e)
	}
}

func TestC2State(t *testing.T) {
	l := three()
	for _, c := range []struct{ n, txn, state, last int }{
		{0, 1, 0, 0}, {1, 1, 1, 1}, {3, 1, 1, 3}, {5, 1, 1, 3}, {6, 1, 3, 6}, {7, 1, 3, 7}, {8, 1, 4, 8}, {9, 1, 4, 8},
		{1, 2, 0, 0}, {2, 2, 1, 2}, {4, 2, 2, 4}, {5, 2, 4, 5}, {9, 2, 4, 5},
		{8, 3, 0, 0}, {9, 3, 1, 9}, {9, 4, 0, 0}, {9, 9, 0, 0},
	} {
		if s, last, e := State(l[:c.n], c.txn); s != c.state || last != c.last || e != api.OK {
			t.Errorf("State of %d in %d records is %d %d %d, and must be %d %d 0", c.txn, c.n, s, last, e, c.state, c.last)
		}
	}
	if s, last, e := State([]api.Rec{cm(9, 0)}, 9); s != 2 || last != 1 || e != api.OK {
		t.Errorf("a commit alone: %d %d %d", s, last, e)
	}
}

func TestC2P1Errors(t *testing.T) {
	for _, txn := range []int{math.MinInt, -1, 0, 10, math.MaxInt} {
		if s, last, e := State(three(), txn); s != 0 || last != 0 || e != api.ErrRange {
			t.Errorf("State of %d is %d %d %d", txn, s, last, e)
		}
	}
	for _, c := range []struct {
		l    []api.Rec
		want api.Errno
	}{
		{make([]api.Rec, 61), api.ErrMany},
		{behind(three(), api.Rec{Kind: 7, Txn: 1}), api.ErrKind},
		{behind(three(), cm(0, 0)), api.ErrRange},
		{behind(three(), cm(3, 0)), api.ErrForm},
	} {
		if p, e := Pages(c.l); p != ([api.Pages]api.Page{}) || e != c.want {
			t.Errorf("Pages: %v %d, and must be %d", p, e, c.want)
		}
		for _, txn := range []int{-1, 0, 1, 3, 9, 10} { // the log's error is ahead of the Txn's
			if s, last, e := State(c.l, txn); s != 0 || last != 0 || e != c.want {
				t.Errorf("State of %d: %d %d %d, and must be %d", txn, s, last, e, c.want)
			}
		}
	}
}

func TestP2TheLogIsOnlyRead(t *testing.T) {
	for _, whole := range [][]api.Rec{three(), full(), with(three(), 7, func(r *api.Rec) { r.Next = 3 })} {
		was := slices.Clone(whole)
		for n := range len(whole) + 1 {
			l := whole[:n]
			e := Check(l)
			p, f := Pages(l)
			State(l, 1)
			if !slices.Equal(whole, was) {
				t.Fatalf("the log, or what is behind its %d records, was changed", n)
			}
			if e != f || p != pagesOf(was, n) && e == api.OK {
				t.Fatalf("%d records: %d; %v %d", n, e, p, f)
			}
		}
	}
}

func TestP2P3NothingIsKept(t *testing.T) {
	l := three()
	before, _ := Pages(l)
	with(l, 9, func(r *api.Rec) { r.New = 50 })
	after, _ := Pages(l)
	if before[0].Cells[0] != 8 || after[0].Cells[0] != 50 {
		t.Errorf("before %v, after %v", before, after)
	}
	after[0].Cells[0] = 77
	Check(make([]api.Rec, 61))
	State(full(), 1)
	Pages([]api.Rec{wr(1, 0, 2, 2, 0, 9)})
	for range 3 {
		if again, e := Pages(three()); again != before || e != api.OK {
			t.Errorf("it was %v, and is %v %d", before, again, e)
		}
		if s, last, e := State(three(), 1); s != 4 || last != 8 || e != api.OK {
			t.Errorf("State is %d %d %d", s, last, e)
		}
	}
}
