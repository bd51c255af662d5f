package whole

import (
	"fmt"
	"regexp"
	"strings"
	"testing"

	"croft/api"
	"croft/desk"
)

// line: one that is likely to be right, as the one behind so many records.
func (d *draw) line(records int) string {
	txn, page, cell, val := d.number(1, api.MaxTxns), d.number(0, api.Pages-1), d.number(0, api.Cells-1), d.number(0, api.MaxVal)
	line := []string{
		fmt.Sprintf("write %d %d %d %d", txn, page, cell, val), fmt.Sprintf("write %d %d %d %d", txn, page, cell, val), fmt.Sprintf("write %d %d %d %d", txn, page, cell, val),
		fmt.Sprintf("commit %d", txn), fmt.Sprintf("commit %d", txn), fmt.Sprintf("abort %d", txn), fmt.Sprintf("sync %d", d.number(0, records)), fmt.Sprintf("flush %d", page),
		"crash", "now", "disk", "must", "log", fmt.Sprintf("state %d", txn),
	}[d.n(14)]
	if d.n(12) > 0 {
		return line
	}
	at := d.n(len(line) + 1)
	return line[:at] + []string{" ", "0", "1", "x", "-", "\x00", "\xff", "\t"}[d.n(8)] + line[at:]
}

var known = regexp.MustCompile(`^(write( N){4}|(commit|abort|sync|flush|state)( N)|crash|now|disk|must|log)$`)
var numeral = regexp.MustCompile(`^(0|[1-9][0-9]{0,5})$`)

// parts: the line's first word and its numbers; false, if the line is none.
func parts(line string) (string, [4]int, bool) {
	var n [4]int
	words := strings.Split(line, " ")
	shape := words[0]
	for i, word := range words[1:] {
		if !numeral.MatchString(word) || i > 3 {
			return "", n, false
		}
		fmt.Sscan(word, &n[i])
		shape += " N"
	}
	return words[0], n, known.MatchString(shape)
}

func cellsText(p [api.Pages]api.Page) string {
	return strings.NewReplacer("[", "", "]", "").Replace(fmt.Sprint(cellsOf(p)))
}

// lineOf: chapter 13, one line: what it gives, the world then, and the error.
func lineOf(w api.World, line string) (string, api.World, api.Errno) {
	word, n, ok := parts(line)
	if !ok {
		return "", w, api.ErrForm
	}
	x := api.Act{Kind: map[string]int{"write": 1, "commit": 2, "abort": 3, "sync": 4, "flush": 5}[word], Txn: n[0], Page: n[1], Cell: n[2], Val: n[3]}
	switch word {
	case "sync":
		x.Val = n[0]
	case "flush":
		x.Page = n[0]
	case "crash":
		next, put, e := mendOf(w, 1000, [api.Pages]bool{true, true, true})
		return fmt.Sprint(put), next, e
	case "now":
		return cellsText(pagesOf(w.Log)), w, api.OK
	case "disk":
		return cellsText(w.Disk), w, api.OK
	case "must":
		var p [api.Pages]api.Page
		for i := range api.Pages * api.Cells {
			p[i/api.Cells].Cells[i%api.Cells] = mustBe(w.Log[:w.Safe], i/api.Cells, i%api.Cells)
		}
		return cellsText(p), w, api.OK
	case "log":
		return fmt.Sprint(len(w.Log), w.Safe), w, api.OK
	case "state":
		if none(n[0], 1, 9) {
			return "", w, api.ErrRange
		}
		state := 0
		if last := lastOf(w.Log, n[0]); last > 0 {
			state = w.Log[last-1].Kind // each kind of a Txn's last record is the number of its state
		}
		return fmt.Sprint(state), w, api.OK
	}
	next, e := doOf(w, x)
	return "ok", next, e
}

func TestM1M2DrawnScripts(t *testing.T) {
	d := draw(61)
	told := map[api.Errno]int{}
	for range 600 {
		var w api.World
		var lines, want []string
		for range d.n(api.MaxActs + 1) {
			line := d.line(len(w.Log))
			given, next, e := lineOf(w, line)
			if e != api.OK {
				given = fmt.Sprintf("error %d", e)
			} else {
				w = next
			}
			told[e]++
			lines, want = append(lines, line+"\n"), append(want, given+"\n")
		}
		script := strings.Join(lines, "")
		if got, e := desk.Play(script); e != api.OK || got != strings.Join(want, "") {
			t.Fatalf("Play(%q) is %q %d, and must be %q", script, got, e, want)
		}
	}
	for _, e := range []api.Errno{api.OK, api.ErrForm, api.ErrRange, api.ErrBusy, api.ErrOver, api.ErrNone} {
		if told[e] < 50 {
			t.Errorf("%d was drawn %d times alone", e, told[e])
		}
	}
}
