package book

import (
	"iter"
	"slices"

	"croft/api"
)

// InState goes through the Txns, rising, whose state is one of these. Each is looked at when its turn comes, so that who goes through them may put records meanwhile.
func (b *Book) InState(states ...int) iter.Seq2[int, Txn] {
	return func(yield func(int, Txn) bool) {
		for txn := 1; txn <= api.MaxTxns; txn++ {
			t := b.Txns[txn]
			if slices.Contains(states, t.State) && !yield(txn, t) {
				return
			}
		}
	}
}

// allows tells whether a record of that kind may come behind those that the Txn has.
func (t Txn) allows(kind int) bool {
	switch kind {
	case api.Write, api.Commit:
		return t.State == 0 || t.State == api.Write
	case api.Back:
		return len(t.Stands) > 0 && t.State != api.Commit
	case api.End:
		return t.State == api.Commit || t.State == api.Back && len(t.Stands) == 0
	}
	return false
}

// Back is the record that takes back the last Write that stands; one without a kind, if none stands.
func (t Txn) Back() api.Rec {
	if len(t.Stands) == 0 {
		return api.Rec{}
	}
	w := t.Stands[len(t.Stands)-1]
	return api.Rec{
		Kind: api.Back, Txn: w.Txn, Prev: t.Last,
		Page: w.Page, Cell: w.Cell, Old: w.New, New: w.Old,
		Next: w.Prev,
	}
}

// with is the Txn behind its record n.
func (t Txn) with(n int, r api.Rec) Txn {
	switch r.Kind {
	case api.Write:
		t.Stands = append(t.Stands, r)
	case api.Back:
		t.Stands = t.Stands[:len(t.Stands)-1]
	case api.End:
		t.Stands = nil
	}
	t.State = r.Kind
	t.Last = n
	return t
}
