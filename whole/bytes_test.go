package whole

import (
	"testing"

	"croft/api"
	"croft/wire"
)

// bytesOf: chapter 12, Write, of a right world.
func bytesOf(w api.World) string {
	var b []byte
	for _, p := range w.Disk {
		b = append(b, byte(p.Cells[0]), byte(p.Cells[1]), byte(p.Cells[2]), byte(p.Last))
	}
	b = append(b, byte(w.Safe))
	for _, r := range w.Log {
		b = append(b, byte(r.Kind), byte(r.Txn), byte(r.Prev))
		switch r.Kind {
		case api.Write:
			b = append(b, byte(r.Page), byte(r.Cell), byte(r.Old), byte(r.New))
		case api.Back:
			b = append(b, byte(r.Page), byte(r.Cell), byte(r.Old), byte(r.New), byte(r.Next))
		}
	}
	return string(b)
}

// worldOf: chapter 12, Read: by how long the records of each kind are.
func worldOf(b string) (api.World, api.Errno) {
	var w api.World
	if len(b) < 13 {
		return api.World{}, api.ErrForm
	}
	for i := range w.Disk {
		w.Disk[i] = api.Page{Cells: [api.Cells]int{int(b[4*i]), int(b[4*i+1]), int(b[4*i+2])}, Last: int(b[4*i+3])}
	}
	w.Safe = int(b[12])
	for b = b[13:]; b != ""; {
		long := map[byte]int{1: 7, 2: 3, 3: 8, 4: 3}[b[0]]
		if long == 0 || long > len(b) {
			return api.World{}, api.ErrForm
		}
		var n [8]int
		for i := range long {
			n[i] = int(b[i])
		}
		w.Log = append(w.Log, api.Rec{Kind: n[0], Txn: n[1], Prev: n[2], Page: n[3], Cell: n[4], Old: n[5], New: n[6], Next: n[7]})
		b = b[long:]
	}
	if checkWorld(w) != api.OK {
		return api.World{}, api.ErrForm
	}
	return w, api.OK
}

// turnedBytes: the bytes with something turned, cut or put in.
func turnedBytes(d *draw, b string) string {
	at := d.n(len(b))
	some := string([]byte{byte(d.n(256))})
	if d.n(2) == 0 {
		some = string([]byte{byte(d.n(10))})
	}
	switch d.n(5) {
	case 0:
		return b[:at]
	case 1:
		return b[:at] + b[at+1:]
	case 2:
		return b[:at] + some + b[at:]
	case 3:
		return b + some
	}
	return b[:at] + some + b[at+1:]
}

func TestL1L2DrawnWorlds(t *testing.T) {
	d := draw(51)
	told := map[api.Errno]int{}
	for i := range 600 {
		w := d.world()
		if i%2 == 0 {
			w = turned(&d, w)
		}
		e, want := checkWorld(w), ""
		if e == api.OK {
			want = bytesOf(w)
		}
		b, f := wire.Write(w)
		if f != e || b != want {
			t.Fatalf("Write(%v) is %q %d, and must be %q %d", w, b, f, want, e)
		}
		told[e]++
		if e != api.OK {
			continue
		}
		if got, f := wire.Read(b); f != api.OK || !same(got, w) {
			t.Fatalf("Read(%q) is %v %d, and must be %v", b, got, f, w)
		}
	}
	for _, e := range []api.Errno{api.OK, api.ErrForm, api.ErrRange} {
		if told[e] < 20 {
			t.Errorf("%d was drawn %d times alone", e, told[e])
		}
	}
}

func TestL1L2DrawnBytes(t *testing.T) {
	d := draw(53)
	told := map[api.Errno]int{}
	for range 300 {
		right := bytesOf(d.world())
		for range 30 {
			b := turnedBytes(&d, right)
			want, e := worldOf(b)
			got, f := wire.Read(b)
			if f != e || !same(got, want) {
				t.Fatalf("Read(%q) is %v %d, and must be %v %d", b, got, f, want, e)
			}
			told[e]++
			if e != api.OK {
				continue
			}
			if again, f := wire.Write(got); f != api.OK || again != b {
				t.Fatalf("%q is read, and written as %q %d", b, again, f)
			}
		}
	}
	for _, e := range []api.Errno{api.OK, api.ErrForm} {
		if told[e] < 100 {
			t.Errorf("%d was drawn %d times alone", e, told[e])
		}
	}
}
