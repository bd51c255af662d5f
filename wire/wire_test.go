package wire

import (
	"math"
	"slices"
	"strings"
	"testing"

	"croft/api"
	"croft/world"
)

func wr(txn, prev, at, cell, was, now int) api.Rec {
	return api.Rec{Kind: api.Write, Txn: txn, Prev: prev, Page: at, Cell: cell, Old: was, New: now}
}

func bk(txn, prev, at, cell, was, now, next int) api.Rec {
	return api.Rec{Kind: api.Back, Txn: txn, Prev: prev, Page: at, Cell: cell, Old: was, New: now, Next: next}
}

func cm(txn, prev int) api.Rec { return api.Rec{Kind: api.Commit, Txn: txn, Prev: prev} }

func en(txn, prev int) api.Rec { return api.Rec{Kind: api.End, Txn: txn, Prev: prev} }

type pages = [api.Pages]api.Page

func page(last, a, b, c int) api.Page { return api.Page{Cells: [api.Cells]int{a, b, c}, Last: last} }

func same(a, b api.World) bool {
	return a.Disk == b.Disk && a.Safe == b.Safe && slices.Equal(a.Log, b.Log)
}

// lab: records of all kinds, and one page on the disk.
func lab() api.World {
	return api.World{
		Disk: pages{1: page(2, 0, 6, 0)},
		Log: []api.Rec{
			wr(1, 0, 0, 0, 0, 5), wr(2, 0, 1, 1, 0, 6), wr(1, 1, 0, 1, 0, 7), cm(2, 2), en(2, 4),
			bk(1, 3, 0, 1, 7, 0, 1), bk(1, 6, 0, 0, 5, 0, 0), en(1, 7), wr(3, 0, 0, 0, 0, 8),
		},
		Safe: 6,
	}
}

// noughts: what the disk is in the beginning.
const noughts = "\x00\x00\x00\x00\x00\x00\x00\x00\x00\x00\x00\x00"

const labBytes = "\x00\x00\x00\x00" + "\x00\x06\x00\x02" + "\x00\x00\x00\x00" + "\x06" +
	"\x01\x01\x00\x00\x00\x00\x05" + "\x01\x02\x00\x01\x01\x00\x06" + "\x01\x01\x01\x00\x01\x00\x07" +
	"\x02\x02\x02" + "\x04\x02\x04" +
	"\x03\x01\x03\x00\x01\x07\x00\x01" + "\x03\x01\x06\x00\x00\x05\x00\x00" + "\x04\x01\x07" +
	"\x01\x03\x00\x00\x00\x00\x08"

// full: 60 records, all of them Writes of 9.
func full() []api.Rec {
	var l []api.Rec
	for i := range api.MaxLog {
		l = append(l, wr(9, i, 2, 2, min(i, 1)*99, 99))
	}
	return l
}

// worlds: what is written, and as which bytes.
func worlds() map[string]struct {
	w api.World
	b string
} {
	long := noughts + "\x3c"
	for i := range api.MaxLog {
		long += string([]byte{1, 9, byte(i), 2, 2, byte(min(i, 1) * 99), 99})
	}
	return map[string]struct {
		w api.World
		b string
	}{
		"the lab":       {lab(), labBytes},
		"the beginning": {world.Begin(), noughts + "\x00"},
		"all pages":     {api.World{Disk: pages{page(1, 9, 0, 0), page(2, 0, 99, 0), page(3, 0, 0, 1)}, Log: []api.Rec{wr(1, 0, 0, 0, 0, 9), wr(9, 0, 1, 1, 0, 99), wr(1, 1, 2, 2, 0, 1)}, Safe: 3}, "\x09\x00\x00\x01\x00\x63\x00\x02\x00\x00\x01\x03\x03" + "\x01\x01\x00\x00\x00\x00\x09" + "\x01\x09\x00\x01\x01\x00\x63" + "\x01\x01\x01\x02\x02\x00\x01"},
		"a Commit":      {api.World{Log: []api.Rec{cm(3, 0)}}, noughts + "\x00\x02\x03\x00"},
		"an End":        {api.World{Log: []api.Rec{cm(3, 0), en(3, 1)}, Safe: 1}, noughts + "\x01\x02\x03\x00\x04\x03\x01"},
		"a Back":        {api.World{Log: lab().Log[:6]}, noughts + "\x00" + labBytes[13:48]},
		"60 records":    {api.World{Log: full(), Safe: 60}, long},
	}
}

func TestL1L2WrittenAndRead(t *testing.T) {
	for name, c := range worlds() {
		if b, e := Write(c.w); e != api.OK || b != c.b {
			t.Errorf("%s: %q %d, and must be %q", name, b, e, c.b)
		}
		if w, e := Read(c.b); e != api.OK || !same(w, c.w) {
			t.Errorf("%s: %v %d, and must be %v", name, w, e, c.w)
		}
	}
	if len(labBytes) != 66 {
		t.Errorf("the document's example has 66 bytes, and not %d", len(labBytes))
	}
}

func TestL1P1WriteIsRefused(t *testing.T) {
	for name, c := range map[string]struct {
		w    api.World
		want api.Errno
	}{
		"the log's many":        {api.World{Log: append(full(), en(9, 60))}, api.ErrMany},
		"the log's kind":        {api.World{Log: make([]api.Rec, 1)}, api.ErrKind},
		"the log's range":       {api.World{Log: append(lab().Log, cm(10, 0))}, api.ErrRange},
		"a value above a byte":  {api.World{Log: []api.Rec{wr(1, 0, 0, 0, 0, 256+5)}}, api.ErrRange},
		"the log's form":        {api.World{Log: lab().Log[1:]}, api.ErrForm},
		"Safe below":            {api.World{Safe: -1}, api.ErrRange},
		"Safe above":            {api.World{Safe: 1}, api.ErrRange},
		"Safe above a byte":     {api.World{Log: lab().Log, Safe: 256 + 6}, api.ErrRange},
		"Safe far above":        {api.World{Log: lab().Log, Safe: math.MaxInt}, api.ErrRange},
		"the disk":              {api.World{Disk: pages{page(0, 1, 0, 0)}}, api.ErrForm},
		"the disk, above bytes": {api.World{Disk: pages{page(0, 256, 0, 0)}}, api.ErrForm},
		"the disk, not safe":    {api.World{Disk: lab().Disk, Log: lab().Log, Safe: 1}, api.ErrForm},
	} {
		if b, e := Write(c.w); e != c.want || b != "" {
			t.Errorf("%s: %q %d, and must be %d", name, b, e, c.want)
		}
	}
}

func TestL1P1ReadIsRefused(t *testing.T) {
	for name, c := range map[string]struct {
		b    string
		want api.Errno
	}{
		"nothing":                         {"", api.ErrForm},
		"no Safe":                         {noughts, api.ErrForm},
		"4096 bytes":                      {noughts + strings.Repeat("\x00", 4096-12), api.ErrForm},
		"4097 bytes":                      {noughts + strings.Repeat("\x00", 4097-12), api.ErrMany},
		"many bytes":                      {strings.Repeat("\x01", 1<<20), api.ErrMany},
		"4096, any":                       {strings.Repeat("\xff", 4096), api.ErrForm},
		"no kind, nought":                 {noughts + "\x00\x00\x01\x00", api.ErrForm},
		"no kind, 5":                      {noughts + "\x00\x05\x01\x00", api.ErrForm},
		"no kind, at the end":             {noughts + "\x00\x05", api.ErrForm},
		"no Txn":                          {noughts + "\x00\x02\x0a\x00", api.ErrForm},
		"Safe above":                      {noughts + "\x01", api.ErrForm},
		"Safe, as if it were below":       {noughts + "\xff", api.ErrForm},
		"a byte more":                     {labBytes + "\x00", api.ErrForm},
		"a record more that may not be":   {labBytes + "\x04\x03\x09", api.ErrForm},
		"61 records":                      {worlds()["60 records"].b + "\x01\x09\x3c\x02\x02\x63\x63", api.ErrForm},
		"the disk, of which no log tells": {"\x05\x00\x00\x01" + noughts[4:] + "\x00", api.ErrForm},
		"what is told of no Commit":       {noughts + "\x00\x02\x03\x00\x00\x00\x00\x00", api.ErrForm},
	} {
		if w, e := Read(c.b); e != c.want || !same(w, api.World{}) {
			t.Errorf("%s: %v %d, and must be %d", name, w, e, c.want)
		}
	}
}

func TestL1WhatEndsTooEarly(t *testing.T) {
	// Behind its sixth record the lab may be cut, as so many are safe.
	whole := map[int]int{48: 6, 56: 7, 59: 8, 66: 9}
	for n := range len(labBytes) + 1 {
		w, e := Read(labBytes[:n])
		records, ok := whole[n]
		switch {
		case !ok && (e != api.ErrForm || !same(w, api.World{})):
			t.Errorf("%d bytes: %v %d", n, w, e)
		case ok && (e != api.OK || !same(w, api.World{Disk: lab().Disk, Log: lab().Log[:records], Safe: 6})):
			t.Errorf("%d bytes: %v %d, and must have %d records", n, w, e, records)
		}
	}
}

func TestL2NothingElseIsRead(t *testing.T) {
	read := 0
	for i := range len(labBytes) {
		for c := range 256 {
			b := labBytes[:i] + string([]byte{byte(c)}) + labBytes[i+1:]
			w, e := Read(b)
			if e != api.OK && (e != api.ErrForm || !same(w, api.World{})) {
				t.Errorf("%d as %d: %v %d", i, c, w, e)
			}
			if e != api.OK {
				continue
			}
			read++
			if again, f := Write(w); f != api.OK || again != b {
				t.Errorf("%d as %d is read, and written as %q %d", i, c, again, f)
			}
		}
	}
	if read <= len(labBytes) {
		t.Errorf("of those with another byte none is read: %d", read)
	}
}

func TestL1P2P3(t *testing.T) {
	w := lab()
	room := append(w.Log, make([]api.Rec, 5)...)
	was := slices.Clone(room)
	w.Log = room[:9]
	b, _ := Write(w)
	if !slices.Equal(room, was) || !same(w, lab()) {
		t.Errorf("what was handed in was changed: %v, %v", w, room)
	}
	clear(room)
	one, _ := Read(b)
	two, _ := Read(b)
	clear(one.Log)
	if b != labBytes || !same(two, lab()) {
		t.Errorf("a later change is seen: %q, %v", b, two)
	}
	Read(labBytes[:5])
	Write(api.World{Safe: 1})
	if again, e := Write(lab()); e != api.OK || again != b {
		t.Errorf("it was %q, and is %q %d", b, again, e)
	}
}
