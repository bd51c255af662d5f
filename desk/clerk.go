package desk

import (
	"strings"

	"croft/api"
	"croft/flush"
	"croft/log"
	"croft/mend"
	"croft/model"
	"croft/roll"
	"croft/work"
	"croft/world"
)

// clerk does what the lines ask for, on a world that is right at all times.
type clerk struct {
	api.World
}

// order is how many numbers stand behind a line's first word, and what is done then: what is told of it.
type order struct {
	numbers int
	do      func(n []int) any
}

// answer is what the line gives. A line with an error is left by a panic, wherever that is found: the world is turned behind all of these.
func (c *clerk) answer(line string) (given string) {
	defer func() {
		if e, left := recover().(api.Errno); left {
			given = tell(e)
		}
	}()
	return tell(c.obey(strings.Split(line, " ")))
}

// obey does what the words ask for: what is told of it.
func (c *clerk) obey(words []string) any {
	o, ok := c.orders()[words[0]]
	if !ok || len(words) != 1+o.numbers {
		leave(api.ErrForm)
	}
	var numbers []int
	for _, word := range words[1:] {
		numbers = append(numbers, number(word))
	}
	return o.do(numbers)
}

// turn has the world turned, if there is no error.
func (c *clerk) turn(w api.World, e api.Errno) any {
	leave(e)
	c.World = w
	return "ok"
}

// leave leaves the line, if there is an error.
func leave(e api.Errno) {
	if e != api.OK {
		panic(e)
	}
}

// orders has what is done, by the first words of lines.
func (c *clerk) orders() map[string]order {
	return map[string]order{
		"write":  {4, func(n []int) any { return c.turn(work.Write(c.World, n[0], n[1], n[2], n[3])) }},
		"commit": {1, func(n []int) any { return c.turn(work.Commit(c.World, n[0])) }},
		"abort":  {1, func(n []int) any { return c.turn(roll.Abort(c.World, n[0])) }},
		"sync":   {1, func(n []int) any { return c.turn(flush.Sync(c.World, n[0])) }},
		"flush":  {1, func(n []int) any { return c.turn(flush.Page(c.World, n[0])) }},
		"crash": {0, func([]int) any {
			w, put, e := mend.All(c.World)
			c.turn(w, e)
			return put
		}},
		"now": {0, func([]int) any {
			pages, e := world.Now(c.World)
			leave(e)
			return pages
		}},
		"disk": {0, func([]int) any { return c.Disk }},
		"must": {0, func([]int) any {
			cells, e := model.Cells(c.Log[:c.Safe])
			leave(e)
			return cells
		}},
		"log": {0, func([]int) any { return []int{len(c.Log), c.Safe} }},
		"state": {1, func(n []int) any {
			state, _, e := log.State(c.Log, n[0])
			leave(e)
			return state
		}},
	}
}
