package mend

import (
	"croft/api"
	"croft/office"
	"croft/roll"
)

// crew mends what a crash has left on the desk. What lies there (the log, its book, the disk) is the crew's own, and nothing else is: so a crew that comes behind another crash goes on where the one ahead has left.
type crew struct {
	*office.Desk
}

// mend puts the records that are lacking, so many at most: how many were put. It ends without that bound, too: each record leaves one Write less that stands, or one Txn less that is not over.
func (c *crew) mend(most int) (int, api.Errno) {
	put := 0
	for put < most {
		r, ok := c.next()
		if !ok {
			break
		}
		if !c.Room(1) {
			return 0, api.ErrMany
		}
		if e := c.Add(r); e != api.OK {
			return 0, e
		}
		put++
	}
	return put, api.OK
}

// next is the record that is lacking first; false, if none is.
func (c *crew) next() (api.Rec, bool) {
	for txn, t := range c.InState(api.Commit) {
		return api.Rec{Kind: api.End, Txn: txn, Prev: t.Last}, true
	}
	loser := c.latest()
	if loser == 0 {
		return api.Rec{}, false
	}
	// There is no error to look at: who hangs has a next step.
	r, _ := roll.Step(c.Log, loser)
	return r, true
}

// latest is that Txn, of those that hang, whose last record has the greatest number; 0, if none hangs.
func (c *crew) latest() int {
	loser, last := 0, 0
	for txn, t := range c.InState(api.Write, api.Back) {
		if t.Last > last {
			loser, last = txn, t.Last
		}
	}
	return loser
}

// leave has all of the log safe, and those pages on the disk.
func (c *crew) leave(pages ...int) api.Errno {
	c.Secure(c.Size)
	return c.Lay(pages...)
}
