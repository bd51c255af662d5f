package work

import (
	"math"
	"slices"
	"testing"

	"croft/api"
	"croft/log"
	"croft/model"
	"croft/world"
)

func wr(txn, prev, at, cell, was, now int) api.Rec {
	return api.Rec{Kind: api.Write, Txn: txn, Prev: prev, Page: at, Cell: cell, Old: was, New: now}
}

func bk(txn, prev, at, cell, was, now, next int) api.Rec {
	return api.Rec{Kind: api.Back, Txn: txn, Prev: prev, Page: at, Cell: cell, Old: was, New: now, Next: next}
}

func cm(txn, prev int) api.Rec { return api.Rec{Kind: api.Commit, Txn: txn, Prev: prev} }

func en(txn, prev int) api.Rec { return api.Rec{Kind: api.End, Txn: txn, Prev: prev} }

// lab: of the Txns, 1 is over without a Commit, 2 is over with one, 3 writes, 4 has a Commit and no End, 5 is half taken back; 6 to 9 have nothing.
func lab() api.World {
	return api.World{
		Disk: [api.Pages]api.Page{1: {Cells: [api.Cells]int{0, 6, 0}, Last: 3}},
		Log: []api.Rec{
			wr(1, 0, 0, 0, 0, 5), bk(1, 1, 0, 0, 5, 0, 0), wr(2, 0, 1, 1, 0, 6), cm(2, 3), en(2, 4), en(1, 2),
			wr(3, 0, 0, 0, 0, 8), wr(4, 0, 2, 0, 0, 4), cm(4, 8),
			wr(5, 0, 0, 1, 0, 1), wr(5, 10, 0, 2, 0, 2), bk(5, 11, 0, 2, 2, 0, 10),
		},
		Safe: 4,
	}
}

func same(a, b api.World) bool {
	return a.Disk == b.Disk && a.Safe == b.Safe && slices.Equal(a.Log, b.Log)
}

// behind: that world with those records behind all, and with so many safe.
func behind(w api.World, safe int, more ...api.Rec) api.World {
	return api.World{Disk: w.Disk, Log: slices.Concat(w.Log, more), Safe: safe}
}

// writes: a world of n records of 1, all of them Writes.
func writes(n int) api.World {
	w := api.World{}
	for i := range n {
		w.Log = append(w.Log, wr(1, i, 0, 0, i, i+1))
	}
	return w
}

func TestF1Write(t *testing.T) {
	for name, c := range map[string]struct {
		txn, page, cell, val int
		want                 api.Rec
	}{
		"a first record":             {6, 2, 2, 9, wr(6, 0, 2, 2, 0, 9)},
		"the greatest numbers":       {9, 2, 2, 99, wr(9, 0, 2, 2, 0, 99)},
		"a value of nought":          {6, 1, 0, 0, wr(6, 0, 1, 0, 0, 0)},
		"a record more":              {3, 2, 2, 9, wr(3, 7, 2, 2, 0, 9)},
		"its own cell again":         {3, 0, 0, 9, wr(3, 7, 0, 0, 8, 9)},
		"the same value again":       {3, 0, 0, 8, wr(3, 7, 0, 0, 8, 8)},
		"a cell of one that is over": {6, 1, 1, 7, wr(6, 0, 1, 1, 6, 7)},
		"a cell that was taken back": {6, 0, 2, 7, wr(6, 0, 0, 2, 0, 7)},
	} {
		got, e := Write(lab(), c.txn, c.page, c.cell, c.val)
		if want := behind(lab(), 4, c.want); e != api.OK || !same(got, want) {
			t.Errorf("%s: %v %d, and must be %v", name, got, e, want)
		}
		if e := world.Check(got); e != api.OK {
			t.Errorf("%s: the world is not right: %d", name, e)
		}
	}
	got, e := Write(world.Begin(), 1, 0, 0, 5)
	if want := behind(api.World{}, 0, wr(1, 0, 0, 0, 0, 5)); e != api.OK || !same(got, want) {
		t.Errorf("from the beginning: %v %d, and must be %v", got, e, want)
	}
}

func TestF1P1WriteIsRefused(t *testing.T) {
	for name, c := range map[string]struct {
		w                    api.World
		txn, page, cell, val int
		want                 api.Errno
	}{
		"no Txn":            {lab(), 0, 2, 2, 9, api.ErrRange},
		"a Txn too great":   {lab(), 10, 2, 2, 9, api.ErrRange},
		"a Txn far below":   {lab(), math.MinInt, 2, 2, 9, api.ErrRange},
		"no page":           {lab(), 6, -1, 2, 9, api.ErrRange},
		"a page too great":  {lab(), 6, 3, 2, 9, api.ErrRange},
		"a page far above":  {lab(), 6, math.MaxInt, 2, 9, api.ErrRange},
		"no cell":           {lab(), 6, 2, -1, 9, api.ErrRange},
		"a cell too great":  {lab(), 6, 2, 3, 9, api.ErrRange},
		"no value":          {lab(), 6, 2, 2, -1, api.ErrRange},
		"a value too great": {lab(), 6, 2, 2, 100, api.ErrRange},
		"no Txn, busy":      {lab(), 0, 0, 0, 9, api.ErrRange},
		"no Txn, full":      {writes(60), 10, 0, 1, 9, api.ErrRange},

		"over without a commit": {lab(), 1, 2, 2, 9, api.ErrOver},
		"over with a commit":    {lab(), 2, 2, 2, 9, api.ErrOver},
		"behind its commit":     {lab(), 4, 2, 2, 9, api.ErrOver},
		"behind its back":       {lab(), 5, 2, 2, 9, api.ErrOver},

		"one that writes has it":       {lab(), 6, 0, 0, 9, api.ErrBusy},
		"the same value":               {lab(), 6, 0, 0, 8, api.ErrBusy},
		"one with a commit has it":     {lab(), 6, 2, 0, 9, api.ErrBusy},
		"one half taken back has it":   {lab(), 6, 0, 1, 9, api.ErrBusy},
		"one that writes has one more": {lab(), 3, 0, 1, 9, api.ErrBusy},

		"the log is full": {writes(60), 1, 0, 0, 9, api.ErrMany},
		"another's, full": {writes(60), 2, 0, 1, 9, api.ErrMany},

		"the log's error, ahead of all":   {api.World{Log: make([]api.Rec, 61)}, 0, 2, 2, 9, api.ErrMany},
		"the log's kind, ahead of all":    {api.World{Log: make([]api.Rec, 1)}, 0, 2, 2, 9, api.ErrKind},
		"the disk's error, ahead of all":  {api.World{Disk: [api.Pages]api.Page{{Last: 1}}, Log: lab().Log}, 0, 2, 2, 9, api.ErrForm},
		"Safe's error, ahead of over":     {behind(lab(), 13), 1, 2, 2, 9, api.ErrRange},
		"a number, ahead of over":         {lab(), 1, 3, 2, 9, api.ErrRange},
		"a number, ahead of busy":         {lab(), 6, 0, 0, 100, api.ErrRange},
		"a number, ahead of many":         {writes(60), 1, 0, 0, 100, api.ErrRange},
		"over, ahead of busy":             {lab(), 1, 0, 0, 9, api.ErrOver},
		"over, ahead of many":             {behind(writes(59), 0, cm(1, 59)), 1, 0, 0, 9, api.ErrOver},
		"busy, ahead of many":             {writes(60), 2, 0, 0, 9, api.ErrBusy},
		"over, of one with its own cells": {lab(), 5, 0, 1, 9, api.ErrOver},
	} {
		if got, e := Write(c.w, c.txn, c.page, c.cell, c.val); e != c.want || !same(got, api.World{}) {
			t.Errorf("%s: %v %d, and must be %d", name, got, e, c.want)
		}
	}
}

func TestF1Commit(t *testing.T) {
	got, e := Commit(lab(), 3)
	if want := behind(lab(), 13, cm(3, 7), en(3, 13)); e != api.OK || !same(got, want) {
		t.Errorf("it is %v %d, and must be %v", got, e, want)
	}
	got, e = Commit(behind(lab(), 12), 3)
	if want := behind(lab(), 13, cm(3, 7), en(3, 13)); e != api.OK || !same(got, want) {
		t.Errorf("when all was safe: %v %d, and must be %v", got, e, want)
	}
	wins, _ := model.Wins(got.Log[:got.Safe])
	if state, _, _ := log.State(got.Log, 3); state != 4 || !slices.Equal(wins, []int{2, 4, 3}) || world.Check(got) != api.OK {
		t.Errorf("behind it the state is %d, and there win %v", state, wins)
	}
	if _, e := Write(got, 6, 0, 0, 9); e != api.OK {
		t.Errorf("its cell is not let go: %d", e)
	}
	if _, e := Write(got, 3, 2, 2, 9); e != api.ErrOver {
		t.Errorf("it may write then: %d", e)
	}
}

func TestF1P1CommitIsRefused(t *testing.T) {
	for name, c := range map[string]struct {
		w    api.World
		txn  int
		want api.Errno
	}{
		"no Txn":          {lab(), 0, api.ErrRange},
		"a Txn below":     {lab(), -1, api.ErrRange},
		"a Txn too great": {lab(), 10, api.ErrRange},
		"a Txn far above": {lab(), math.MaxInt, api.ErrRange},

		"it has nothing":        {lab(), 6, api.ErrNone},
		"nobody has anything":   {world.Begin(), 9, api.ErrNone},
		"over without a commit": {lab(), 1, api.ErrOver},
		"over with a commit":    {lab(), 2, api.ErrOver},
		"behind its commit":     {lab(), 4, api.ErrOver},
		"behind its back":       {lab(), 5, api.ErrOver},

		"the log is full":        {writes(60), 1, api.ErrMany},
		"one record more may be": {writes(59), 1, api.ErrMany},

		"the log's error, ahead of all":  {api.World{Log: make([]api.Rec, 61)}, 0, api.ErrMany},
		"the log's kind, ahead of all":   {api.World{Log: make([]api.Rec, 1)}, 0, api.ErrKind},
		"the disk's error, ahead of all": {api.World{Disk: [api.Pages]api.Page{{Last: 1}}, Log: lab().Log}, 0, api.ErrForm},
		"Safe's error, ahead of none":    {behind(lab(), -1), 6, api.ErrRange},
		"a number, ahead of many":        {writes(60), 0, api.ErrRange},
		"none, ahead of many":            {writes(60), 2, api.ErrNone},
		"over, ahead of many":            {behind(writes(59), 0, cm(1, 59)), 1, api.ErrOver},
	} {
		if got, e := Commit(c.w, c.txn); e != c.want || !same(got, api.World{}) {
			t.Errorf("%s: %v %d, and must be %d", name, got, e, c.want)
		}
	}
}

func TestF1TheLogsLastRecords(t *testing.T) {
	got, e := Write(writes(59), 1, 0, 0, 60)
	if e != api.OK || !same(got, writes(60)) {
		t.Errorf("the last Write: %v %d", got, e)
	}
	got, e = Commit(writes(58), 1)
	if want := behind(writes(58), 59, cm(1, 58), en(1, 59)); e != api.OK || !same(got, want) {
		t.Errorf("the last Commit: %v %d", got, e)
	}
}

// calls: both calls, as they are right in the lab.
func calls() []func(w api.World) (api.World, api.Errno) {
	return []func(w api.World) (api.World, api.Errno){
		func(w api.World) (api.World, api.Errno) { return Write(w, 3, 2, 2, 9) },
		func(w api.World) (api.World, api.Errno) { return Commit(w, 3) },
	}
}

func TestF1P2OnlyRead(t *testing.T) {
	for i, call := range calls() {
		room := append(lab().Log, wr(9, 0, 1, 2, 0, 77), cm(9, 13), en(9, 14))
		was := slices.Clone(room)
		w := lab()
		w.Log = room[:len(w.Log)]
		got, e := call(w)
		if e != api.OK || !slices.Equal(room, was) {
			t.Errorf("call %d: %d; the log, or the room behind it, was changed: %v", i, e, room)
		}
		for n := range got.Log {
			got.Log[n].New = 50
		}
		if !slices.Equal(room, was) {
			t.Errorf("call %d: the answer shares the log's memory", i)
		}
		got, _ = call(w)
		want := slices.Clone(got.Log)
		for n := range room {
			room[n] = api.Rec{}
		}
		if !slices.Equal(got.Log, want) {
			t.Errorf("call %d: a later change is seen: %v", i, got.Log)
		}
	}
}

func TestF1P3TheSameAgain(t *testing.T) {
	for i, call := range calls() {
		first, _ := call(lab())
		Write(world.Begin(), 9, 0, 0, 1)
		Commit(first, 9)
		for range 3 {
			if got, e := call(lab()); e != api.OK || !same(got, first) {
				t.Errorf("call %d was %v, and is %v %d", i, first, got, e)
			}
		}
	}
}
