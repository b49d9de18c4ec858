package wal

import (
	"math/rand"
	"slices"
	"strings"
	"testing"

	"quittance/api"
	"quittance/drive"
	"quittance/row"
	"quittance/tally"
)

func disk(t *testing.T, sectors int) *drive.Drive {
	t.Helper()
	d, e := drive.New(sectors)
	do(t, e, api.OK)
	return d
}

func open(t *testing.T, d *drive.Drive) *Wal {
	t.Helper()
	w, e := Open(d)
	do(t, e, api.OK)
	return w
}

func do(t *testing.T, have, want api.Errno) {
	t.Helper()
	if have != want {
		t.Fatalf("%d, wanted %d", have, want)
	}
}

// told returns the transactions in one string.
func told(w *Wal) string {
	var l []string
	for _, x := range w.Txns() {
		l = append(l, tally.Row(x))
	}
	return tally.Row(l)
}

func list(txns ...[]string) string {
	var l []string
	for _, x := range txns {
		l = append(l, tally.Row(x))
	}
	return tally.Row(l)
}

func shows(t *testing.T, w *Wal, age uint64, room int, txns ...[]string) {
	t.Helper()
	if told(w) != list(txns...) || w.Age() != age || w.Room() != room {
		t.Fatalf("%q, %d, %d; wanted %q, %d, %d", w.Txns(), w.Age(), w.Room(), txns, age, room)
	}
}

func TestP6_1(t *testing.T) {
	for _, d := range []*drive.Drive{nil, {}} {
		if w, e := Open(d); w != nil || e != api.ErrNil {
			t.Error(e)
		}
	}
	for _, w := range []*Wal{nil, {}} {
		shows(t, w, 0, 0)
		do(t, w.Commit(nil), api.ErrNil)
		do(t, w.Save([]string{strings.Repeat("x", api.MaxPiece+1)}), api.ErrNil)
	}
	d := disk(t, 17)
	w := open(t, d)
	shows(t, w, 0, 8)
	do(t, w.Commit([]string{"a", "b"}), api.OK)
	shows(t, w, 1, 7, []string{"a", "b"})
	do(t, w.Commit(nil), api.OK)
	shows(t, w, 1, 6, []string{"a", "b"}, nil)
	shows(t, open(t, d), 1, 6, []string{"a", "b"}, nil)
	do(t, w.Save([]string{"c"}), api.OK)
	shows(t, w, 3, 7, []string{"c"})
	shows(t, open(t, d), 3, 7, []string{"c"})
	l := w.Txns()
	l[0][0] = "changed"
	_ = append(l[0], "more")
	shows(t, w, 3, 7, []string{"c"})
	if s, _ := d.Read(16); strings.Trim(s, "\x00") != "" {
		t.Error("a sector of no half")
	}
	for _, put := range []func(*Wal, []string) api.Errno{(*Wal).Commit, (*Wal).Save} {
		d := disk(t, 16)
		do(t, put(open(t, d), []string{"a"}), api.OK)
		if r, _ := row.Open(d, 0, 8); r.First() != 1 {
			t.Error("a blank log does not begin in the first half")
		}
	}
}

// TestP6_1Halves lays sheaves into the halves by hand.
func TestP6_1Halves(t *testing.T) {
	for _, x := range []struct {
		first, second uint64
		text          string
		e             api.Errno
		base          string
	}{
		{4, 4, tally.Row([]string{"0"}), api.OK, "0"}, {4, 5, tally.Row([]string{"0"}), api.OK, "1"},
		{5, 4, tally.Row([]string{"0"}), api.OK, "0"}, {0, 1, "", api.OK, "1"}, {4, 5, "no list", api.OK, "1"},
		{5, 4, "no list", api.ErrForm, ""}, {5, 0, tally.Row([]string{"0"}) + "x", api.ErrForm, ""}, {5, 0, "", api.ErrForm, ""},
	} {
		d := disk(t, 16)
		for i, stamp := range []uint64{x.first, x.second} {
			r, _ := row.Open(d, 8*i, 8)
			s := x.text
			if i == 1 {
				s = tally.Row([]string{"1"})
			}
			if stamp > 0 {
				do(t, r.Begin(stamp, s), api.OK)
			}
		}
		w, e := Open(d)
		if e != x.e || w == nil && e == api.OK || w != nil && e != api.OK {
			t.Fatal(x, e)
		}
		if e == api.OK {
			shows(t, w, max(x.first, x.second), 7, []string{x.base})
		}
	}
}

func TestP6_2(t *testing.T) {
	d := disk(t, 16)
	w := open(t, d)
	piece := strings.Repeat("x", api.MaxPiece)
	for _, put := range []func([]string) api.Errno{w.Commit, w.Save} {
		do(t, put([]string{"a", piece + "x"}), api.ErrLong)
		do(t, put([]string{piece, piece}), api.ErrLong)
		do(t, put([]string{piece}), api.ErrFull)
		shows(t, w, 0, 8)
	}
	do(t, w.Commit([]string{piece[:300]}), api.OK)
	for _, put := range []func([]string) api.Errno{w.Commit, w.Save} {
		do(t, put([]string{piece + "x"}), api.ErrLong)
		do(t, put([]string{piece[:400]}), api.ErrFull)
		shows(t, w, 1, 1, []string{piece[:300]})
	}
	if d.Pending() != 0 {
		t.Error(d.Pending())
	}
	do(t, w.Save([]string{"b"}), api.OK)
	do(t, w.Save([]string{"c"}), api.OK)
	shows(t, w, 3, 7, []string{"c"})
	if d.Pending() != 0 {
		t.Error(d.Pending())
	}
}

func TestP6_2Large(t *testing.T) {
	d := disk(t, api.MostSectors)
	w := open(t, d)
	l := []string{strings.Repeat("x", api.MaxPiece), strings.Repeat("y", api.MaxSheaf-api.MaxPiece-10)}
	for len(tally.Row(l)) < api.MaxSheaf {
		l[1] += "y"
	}
	do(t, w.Save(l), api.ErrFull) // the length of the sheaf's string takes one leaf more
	l[1] = l[1][1:]
	l = append(l, "", "")
	do(t, w.Save(l), api.ErrLong)
	do(t, w.Save([]string{l[0], l[1][48:]}), api.OK)
	shows(t, open(t, d), 1, 0, []string{l[0], l[1][48:]})
}

func TestP6_2Stamp(t *testing.T) {
	for _, x := range []struct {
		half int
		top  uint64
		e    api.Errno
	}{{0, 1<<63 - 2, api.OK}, {1, 1<<63 - 2, api.OK}, {0, 1<<63 - 1, api.ErrFull}, {1, 1<<63 - 1, api.ErrFull}, {1, 1<<64 - 1, api.ErrFull}} {
		for _, put := range []func(*Wal, []string) api.Errno{(*Wal).Commit, (*Wal).Save} {
			d := disk(t, 16)
			r, _ := row.Open(d, 8*x.half, 8)
			do(t, r.Begin(x.top, tally.Row(nil)), api.OK)
			do(t, d.Sync(), api.OK)
			do(t, put(open(t, d), []string{"a"}), x.e)
			if d.Pending() != 0 {
				t.Error("something is written")
			}
		}
	}
}

// TestP6_2Down: what was refused by the drive is not shown, though a row has it.
func TestP6_2Down(t *testing.T) {
	for fuse := range 2 {
		for _, put := range []func(*Wal, []string) api.Errno{(*Wal).Commit, (*Wal).Save} {
			d := disk(t, 16)
			w := open(t, d)
			d.Fuse(fuse)
			do(t, put(w, []string{"a"}), api.ErrDown)
			shows(t, w, 0, 8)
			d.Crash(api.Crash{})
			do(t, put(w, []string{strings.Repeat("x", api.MaxPiece+1)}), api.ErrDown)
			w = open(t, d)
			do(t, w.Commit([]string{"b"}), api.OK)
			age := w.Age()
			d.Fuse(fuse)
			do(t, put(w, []string{"c"}), api.ErrDown)
			shows(t, w, age, 7, []string{"b"})
		}
	}
}

func TestP6_3(t *testing.T) {
	for _, n := range []int{0, 43, 44, 45, 46, 47, 48, 92, 93, 94, 1000} {
		l := []string{strings.Repeat("x", n)}
		d := disk(t, 64)
		w := open(t, d)
		room := w.Room()
		do(t, w.Commit(l), api.OK)
		if room-w.Room() != Cost(l) {
			t.Error(n, room-w.Room(), Cost(l))
		}
	}
	if Cost(nil) != 1 || Cost([]string{"a"}) != 1 {
		t.Error(Cost(nil))
	}
	w := open(t, disk(t, 16))
	do(t, w.Commit([]string{strings.Repeat("x", 8*48-4)}), api.ErrFull)
	do(t, w.Commit([]string{strings.Repeat("x", 8*48-5)}), api.OK)
	if w.Room() != 0 {
		t.Error(w.Room())
	}
}

// TestP6_4 fails the power at each write of a commit and of a save.
func TestP6_4(t *testing.T) {
	r := rand.New(rand.NewSource(7))
	d := disk(t, 24)
	do(t, open(t, d).Commit([]string{"first"}), api.OK)
	next := []string{strings.Repeat("n", 150)}
	for fuse := range 6 {
		for _, put := range []func(*Wal, []string) api.Errno{(*Wal).Commit, (*Wal).Save} {
			for keep := range uint64(32) {
				c := d.Copy()
				w := open(t, c)
				before := told(w)
				c.Fuse(fuse)
				after := before
				e := put(w, next)
				if e == api.OK {
					after = told(w)
				}
				c.Crash(api.Crash{Keep: keep, Torn: r.Intn(6) - 1, At: r.Intn(65)})
				now := told(open(t, c))
				good := now == before || now == list([]string{"first"}, next) || now == list(next)
				if e == api.OK && now != after || !good {
					t.Fatalf("fuse %d, keep %x: %q", fuse, keep, now)
				}
			}
		}
	}
}

// TestP6_5 goes on after failures; what got lost never comes back.
func TestP6_5(t *testing.T) {
	r := rand.New(rand.NewSource(8))
	for range 150 {
		d := disk(t, 20)
		w := open(t, d)
		have := w.Txns()
		for range 40 {
			l := []string{strings.Repeat(string(rune('a'+r.Intn(26))), r.Intn(120)), "\x01\x01\x01x"}
			if r.Intn(3) == 0 {
				d.Fuse(r.Intn(5))
			}
			put, then := w.Commit, append(slices.Clone(have), l)
			if r.Intn(3) == 0 {
				put, then = w.Save, [][]string{l}
			}
			e := put(l)
			if e == api.OK {
				have = then
			}
			if e == api.ErrDown || r.Intn(5) == 0 {
				d.Crash(api.Crash{Keep: r.Uint64(), Torn: r.Intn(6) - 1, At: r.Intn(65)})
				w = open(t, d)
				if e == api.ErrDown && told(w) == list(then...) {
					have = then
				}
			}
			if told(w) != list(have...) {
				t.Fatalf("%q, wanted %q", w.Txns(), have)
			}
		}
	}
}
