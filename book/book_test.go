package book

import (
	"maps"
	"slices"
	"testing"

	"croft/api"
)

func write(txn, prev, cell, was, now int) api.Rec {
	return api.Rec{Kind: api.Write, Txn: txn, Prev: prev, Cell: cell, Old: was, New: now}
}

func read(t *testing.T, l ...api.Rec) *Book {
	t.Helper()
	b, e := Read(l)
	if e != api.OK {
		t.Fatalf("%v is not right: %d", l, e)
	}
	return b
}

func TestC1WhoHasWhichCell(t *testing.T) {
	one := Place{Page: 0, Cell: 1}
	l := []api.Rec{
		write(1, 0, 1, 0, 5), write(1, 1, 1, 5, 6),
		{Kind: api.Back, Txn: 1, Prev: 2, Cell: 1, Old: 6, New: 5, Next: 1}, {Kind: api.Back, Txn: 1, Prev: 3, Cell: 1, Old: 5, New: 0},
		{Kind: api.End, Txn: 1, Prev: 4},
		write(2, 0, 1, 0, 7), {Kind: api.Commit, Txn: 2, Prev: 6}, {Kind: api.End, Txn: 2, Prev: 7},
	}
	for n, want := range []map[Place]Hold{
		{}, {one: {1, 1}}, {one: {1, 2}}, {one: {1, 1}}, {}, {}, {one: {2, 1}}, {one: {2, 1}}, {},
	} {
		if got := read(t, l[:n]...).Holds; !maps.Equal(got, want) {
			t.Errorf("behind %d records %v, and must be %v", n, got, want)
		}
	}
}

func TestC1WithAnErrorTheBookIsAsItWas(t *testing.T) {
	b := read(t, write(1, 0, 0, 0, 5))
	for _, r := range []api.Rec{{}, write(10, 0, 1, 0, 5), write(1, 0, 1, 0, 5), write(2, 0, 0, 5, 6), {Kind: api.End, Txn: 1, Prev: 1}} {
		if e := b.Put(r); e == api.OK {
			t.Errorf("%+v is put", r)
		}
	}
	if b.Size != 1 || len(b.Txns) != 1 || len(b.Holds) != 1 || b.Txns[1].Last != 1 || b.Pages[0].Last != 1 {
		t.Errorf("the book is %+v", b)
	}
	if e := b.Put(write(1, 1, 1, 0, 6)); e != api.OK {
		t.Errorf("then it is refused: %d", e)
	}
}

func TestC1TheNextBack(t *testing.T) {
	b := read(t, write(1, 0, 0, 0, 5), write(1, 1, 1, 0, 6))
	if got, want := b.Txns[1].Back(), (api.Rec{Kind: api.Back, Txn: 1, Prev: 2, Cell: 1, Old: 6, New: 0, Next: 1}); got != want {
		t.Errorf("it is %+v, and must be %+v", got, want)
	}
	if got := b.Txns[2].Back(); got != (api.Rec{}) {
		t.Errorf("of nothing: %+v", got)
	}
}

func TestC1F1WhoFindsACellBusy(t *testing.T) {
	b := read(t, write(1, 0, 0, 0, 5))
	for _, c := range []struct {
		at   Place
		txn  int
		want bool
	}{
		{Place{0, 0}, 1, false}, {Place{0, 0}, 2, true}, {Place{0, 1}, 2, false}, {Place{1, 0}, 2, false}, {Place{-1, 7}, 0, false},
	} {
		if got := b.Busy(c.at, c.txn); got != c.want {
			t.Errorf("%v of %d: %v", c.at, c.txn, got)
		}
	}
}

// four: 7 has written, 5 has a Commit, 2 has a Back, 9 is over; the others have nothing.
func four(t *testing.T) *Book {
	return read(t,
		write(7, 0, 0, 0, 5), write(2, 0, 1, 0, 6), api.Rec{Kind: api.Commit, Txn: 9}, api.Rec{Kind: api.Commit, Txn: 5},
		api.Rec{Kind: api.End, Txn: 9, Prev: 3}, api.Rec{Kind: api.Back, Txn: 2, Prev: 2, Cell: 1, Old: 6},
	)
}

func TestI1TxnsAreGoneThroughByTheirStates(t *testing.T) {
	b := four(t)
	for _, c := range []struct{ states, want []int }{
		{nil, nil}, {[]int{0}, []int{1, 3, 4, 6, 8}}, {[]int{1}, []int{7}}, {[]int{2}, []int{5}}, {[]int{3}, []int{2}}, {[]int{4}, []int{9}},
		{[]int{1, 3}, []int{2, 7}}, {[]int{3, 1, 3}, []int{2, 7}}, {[]int{4, 3, 2, 1}, []int{2, 5, 7, 9}}, {[]int{5, -1}, nil},
	} {
		var got []int
		for txn, x := range b.InState(c.states...) {
			got = append(got, txn)
			if x.State != b.Txns[txn].State || x.Last != b.Txns[txn].Last {
				t.Errorf("%v: %d is told as %+v", c.states, txn, x)
			}
		}
		if !slices.Equal(got, c.want) {
			t.Errorf("%v: %v, and must be %v", c.states, got, c.want)
		}
	}
	if len(b.Txns) != 4 {
		t.Errorf("who is looked at has come into the book: %v", b.Txns)
	}
}

func TestI1WhoGoesThroughMayLeaveAndMayPut(t *testing.T) {
	b := four(t)
	for txn := range b.InState(1, 2, 3, 4) {
		if txn != 2 {
			t.Errorf("it goes on to %d", txn)
		}
		break
	}
	var got []int
	for txn := range b.InState(1, 3) {
		got = append(got, txn)
		if txn == 2 {
			b.Put(api.Rec{Kind: api.Commit, Txn: 7, Prev: 1})
			b.Put(write(8, 0, 2, 0, 1))
		}
	}
	if !slices.Equal(got, []int{2, 8}) {
		t.Errorf("%v hang when their turns come", got)
	}
}
