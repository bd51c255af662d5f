package wire

import (
	"errors"

	"croft/api"
	"croft/rec"
)

var errEarly = errors.New("wire: the bytes end too early")

// tape is bytes, a number each: numbers are put behind all, and taken from the front.
type tape []byte

// put is asked of numbers of a right world alone: none of these is more than a byte can tell.
func (t *tape) put(numbers ...int) {
	for _, n := range numbers {
		*t = append(*t, byte(n))
	}
}

// take takes a number for each of these places. If there are too few, that is left by a panic, so that nobody who takes has to ask: pick recovers it.
func (t *tape) take(places ...*int) {
	for _, at := range places {
		if len(*t) == 0 {
			panic(errEarly)
		}
		*at = int((*t)[0])
		*t = (*t)[1:]
	}
}

// lay is the bytes of a right world.
func lay(w api.World) string {
	var t tape
	for _, p := range w.Disk {
		t.put(p.Cells[:]...)
		t.put(p.Last)
	}
	t.put(w.Safe)
	for _, r := range w.Log {
		t.putRec(r)
	}
	return string(t)
}

// pick is the world, right or not, of which these are the bytes; false, if they end too early.
func pick(b string) (w api.World, whole bool) {
	defer func() {
		whole = recover() == nil
	}()
	t := tape(b)
	for at := range w.Disk {
		p := &w.Disk[at]
		for cell := range p.Cells {
			t.take(&p.Cells[cell])
		}
		t.take(&p.Last)
	}
	t.take(&w.Safe)
	for len(t) > 0 {
		w.Log = append(w.Log, t.takeRec())
	}
	return w, true
}

func (t *tape) putRec(r api.Rec) {
	t.put(r.Kind, r.Txn, r.Prev)
	if rec.Turns(r) {
		t.put(r.Page, r.Cell, r.Old, r.New)
	}
	if r.Kind == api.Back {
		t.put(r.Next)
	}
}

// takeRec takes what putRec has put. The kind comes first, and tells what comes behind.
func (t *tape) takeRec() api.Rec {
	var r api.Rec
	t.take(&r.Kind, &r.Txn, &r.Prev)
	if rec.Turns(r) {
		t.take(&r.Page, &r.Cell, &r.Old, &r.New)
	}
	if r.Kind == api.Back {
		t.take(&r.Next)
	}
	return r
}
