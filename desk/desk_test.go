package desk

import (
	"strings"
	"testing"

	"croft/api"
)

// play holds what each line gives against what it must give; a pair of lines is parted by " -> ".
func play(t *testing.T, name string, pairs ...string) {
	t.Helper()
	script, want := "", ""
	for _, p := range pairs {
		line, given, _ := strings.Cut(p, " -> ")
		script += line + "\n"
		want += given + "\n"
	}
	if got, e := Play(script); e != api.OK || got != want {
		t.Errorf("%s: %d\n%s\nand must be\n%s", name, e, got, want)
	}
}

func TestM1M2ExampleOfTheDocument(t *testing.T) {
	play(t, "behind the crash 7 is there, 5 and 9 are gone",
		"write 1 0 0 5 -> ok", "flush 0 -> ok", "write 2 0 0 6 -> error 5", "write 2 1 2 7 -> ok", "commit 2 -> ok", "commit 2 -> error 6",
		"write 3 2 1 9 -> ok", "now -> 5 0 0 0 0 7 0 9 0", "disk -> 5 0 0 0 0 0 0 0 0", "must -> 0 0 0 0 0 7 0 0 0",
		"log -> 5 3", "state 1 -> 1", "crash -> 3", "now -> 0 0 0 0 0 7 0 0 0", "state 1 -> 4", "state 3 -> 0", "log -> 6 6",
	)
}

func TestM1EachLine(t *testing.T) {
	play(t, "in the beginning",
		"now -> 0 0 0 0 0 0 0 0 0", "disk -> 0 0 0 0 0 0 0 0 0", "must -> 0 0 0 0 0 0 0 0 0", "log -> 0 0", "state 1 -> 0", "state 9 -> 0",
		"crash -> 0", "sync 0 -> ok", "flush 2 -> ok", "log -> 0 0",
	)
	play(t, "page by page, cell by cell",
		"write 9 0 0 10 -> ok", "write 9 0 1 99 -> ok", "write 9 0 2 1 -> ok", "write 9 1 0 20 -> ok", "write 9 1 1 2 -> ok", "write 9 1 2 3 -> ok",
		"write 9 2 0 4 -> ok", "write 9 2 1 50 -> ok", "write 9 2 2 0 -> ok", "now -> 10 99 1 20 2 3 4 50 0", "disk -> 0 0 0 0 0 0 0 0 0",
		"flush 1 -> ok", "disk -> 0 0 0 20 2 3 0 0 0", "log -> 9 6", "must -> 0 0 0 0 0 0 0 0 0", "commit 9 -> ok",
		"must -> 10 99 1 20 2 3 4 50 0", "disk -> 0 0 0 20 2 3 0 0 0", "log -> 11 10", "crash -> 1", "disk -> 10 99 1 20 2 3 4 50 0",
	)
	play(t, "who is over has let go",
		"write 1 0 0 5 -> ok", "write 2 0 0 6 -> error 5", "commit 1 -> ok", "log -> 3 2", "write 2 0 0 6 -> ok", "abort 2 -> ok", "write 3 0 0 7 -> ok", "now -> 7 0 0 0 0 0 0 0 0",
	)
}

func TestM1MustIsOfTheSafeLogAlone(t *testing.T) {
	play(t, "what is not safe must not be",
		"write 1 0 0 5 -> ok", "write 2 1 0 6 -> ok", "must -> 0 0 0 0 0 0 0 0 0", "commit 1 -> ok", "must -> 5 0 0 0 0 0 0 0 0",
		"abort 2 -> ok", "now -> 5 0 0 0 0 0 0 0 0", "log -> 6 3", "must -> 5 0 0 0 0 0 0 0 0", "sync 6 -> ok", "log -> 6 6", "sync 1 -> ok", "log -> 6 6",
	)
}

func TestM1States(t *testing.T) {
	play(t, "states",
		"state 1 -> 0", "write 1 0 0 5 -> ok", "state 1 -> 1", "write 2 1 0 6 -> ok", "commit 2 -> ok", "state 2 -> 4",
		"abort 1 -> ok", "state 1 -> 4", "state 3 -> 0", "write 3 0 0 5 -> ok", "state 3 -> 1", "crash -> 3", "state 3 -> 0", "state 1 -> 4", "state 2 -> 4",
	)
}

func TestM1TheCallsOwnErrors(t *testing.T) {
	play(t, "range",
		"write 0 0 0 0 -> error 3", "write 10 0 0 0 -> error 3", "write 1 3 0 0 -> error 3", "write 1 0 3 0 -> error 3", "write 1 0 0 100 -> error 3",
		"write 999999 0 0 0 -> error 3", "commit 0 -> error 3", "commit 10 -> error 3", "abort 0 -> error 3", "abort 10 -> error 3", "sync 1 -> error 3",
		"sync 999999 -> error 3", "flush 3 -> error 3", "state 0 -> error 3", "state 10 -> error 3", "log -> 0 0",
	)
	play(t, "none, over and busy",
		"commit 1 -> error 7", "abort 1 -> error 7", "write 1 0 0 5 -> ok", "write 2 0 0 5 -> error 5", "abort 2 -> error 7", "abort 1 -> ok",
		"abort 1 -> error 6", "commit 1 -> error 6", "write 1 0 0 5 -> error 6", "write 2 0 0 5 -> ok", "commit 2 -> ok", "write 2 0 0 5 -> error 6",
	)
}

func TestM1ManyWithAnErrorNothingHasChanged(t *testing.T) {
	var pairs []string
	for range 53 {
		pairs = append(pairs, "write 1 0 0 7 -> ok")
	}
	pairs = append(pairs, "sync 40 -> ok", "crash -> error 2", "log -> 53 40", "now -> 7 0 0 0 0 0 0 0 0", "abort 1 -> error 2", "log -> 53 40", "state 1 -> 1")
	play(t, "a full log", pairs...)
}

func TestM1LinesThatAreNone(t *testing.T) {
	for _, line := range []string{
		"", " ", "x", "Now", "NOW", "nowx", "no", "now ", " now", "now now", "now 1", "now\t", "now\r", "\x00", "now\x00", "\xff\xfe", "error 1", "ok",
		"crash 1", "disk 0", "must 1", "log 1", "log ", "state", "state ", "state 1 1", "state 1 ", "state  1", " state 1", "state\t1", "state x",
		"commit", "commit x", "commit 1 2", "abort", "abort ", "abort 1 1", "sync", "sync 1 2", "flush", "flush 0 0",
		"write", "write 1", "write 1 0 0", "write 1 0 0 5 6", "write 1 0 0 5 ", "write 1 0  5", "write  1 0 0 5", "write 1 0 0 x", "write1 0 0 5", "write 1,0,0,5",
	} {
		play(t, "a line that is none", "write 1 0 0 5 -> ok", line+" -> error 1", "log -> 1 0", "state 1 -> 1")
	}
}

func TestM1Numbers(t *testing.T) {
	for _, word := range []string{"", "00", "01", "000000", "0000001", "1000000", "9999999", "18446744073709551617", "-1", "-0", "+1", "+0", "1.0", "1e0", "0x1", "1_0", "a", "1a", "a1", "1a1", "\u0661", "\xb1", "1\x00", "\x001"} {
		play(t, "no number", "sync "+word+" -> error 1", "write 1 0 0 "+word+" -> error 1", "write "+word+" 0 0 0 -> error 1", "log -> 0 0")
	}
	for word, given := range map[string]string{"0": "ok", "1": "ok", "2": "error 3", "10": "error 3", "100000": "error 3", "999999": "error 3"} {
		play(t, "a number", "write 1 0 0 0 -> ok", "sync "+word+" -> "+given)
	}
	play(t, "form, ahead of the call's own", "write 10 9 9 00 -> error 1", "commit 00 -> error 1", "state 010 -> error 1")
}

func TestM1P1WholeScripts(t *testing.T) {
	for name, c := range map[string]struct {
		t    string
		want string
		e    api.Errno
	}{
		"nothing":                        {"", "", api.OK},
		"an empty line":                  {"\n", "error 1\n", api.OK},
		"two empty lines":                {"\n\n", "error 1\nerror 1\n", api.OK},
		"no line feed":                   {"now", "", api.ErrForm},
		"no line feed behind the last":   {"now\nlog", "", api.ErrForm},
		"a blank behind the last":        {"now\n ", "", api.ErrForm},
		"60 lines":                       {strings.Repeat("log\n", 60), strings.Repeat("0 0\n", 60), api.OK},
		"61 lines":                       {strings.Repeat("log\n", 61), "", api.ErrMany},
		"61 empty lines":                 {strings.Repeat("\n", 61), "", api.ErrMany},
		"60 lines, and no line feed":     {strings.Repeat("log\n", 60) + "log", "", api.ErrForm},
		"61 lines, many ahead of form":   {strings.Repeat("log\n", 61) + "log", "", api.ErrMany},
		"4096 bytes":                     {strings.Repeat("x", 4095) + "\n", "error 1\n", api.OK},
		"4096 bytes, no line feed":       {strings.Repeat("x", 4096), "", api.ErrForm},
		"4097 bytes":                     {strings.Repeat("x", 4096) + "\n", "", api.ErrMany},
		"4097 bytes, many ahead of form": {strings.Repeat("x", 4097), "", api.ErrMany},
		"many line feeds":                {strings.Repeat("\n", 4096), "", api.ErrMany},
		"carriage returns":               {"log\r\nlog\n", "error 1\n0 0\n", api.OK},
	} {
		if got, e := Play(c.t); got != c.want || e != c.e {
			t.Errorf("%s: %q %d, and must be %q %d", name, got, e, c.want, c.e)
		}
	}
}

func TestM1P3TheSameAgain(t *testing.T) {
	for range 3 {
		play(t, "it begins anew", "log -> 0 0", "write 1 0 0 5 -> ok", "x -> error 1", "commit 1 -> ok", "must -> 5 0 0 0 0 0 0 0 0")
	}
}

func TestM1AnyBytes(t *testing.T) {
	for c := range 256 {
		one := string([]byte{byte(c)})
		want := "error 1\n"
		if one == "\n" {
			want += want
		}
		if got, e := Play(one + "\n"); e != api.OK || got != want {
			t.Errorf("%q: %q %d", one, got, e)
		}
	}
}
