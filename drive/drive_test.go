package drive

import (
	"math/rand"
	"strings"
	"testing"

	"quittance/api"
)

func fresh(t *testing.T, sectors int) *Drive {
	t.Helper()
	d, e := New(sectors)
	if d == nil || e != api.OK {
		t.Fatal(sectors, e)
	}
	return d
}

func do(t *testing.T, have, want api.Errno) {
	t.Helper()
	if have != want {
		t.Fatalf("%d, wanted %d", have, want)
	}
}

// shows checks that a sector has these bytes, padded.
func shows(t *testing.T, d *Drive, n int, want string) {
	t.Helper()
	s, e := d.Read(n)
	do(t, e, api.OK)
	if s != pad(want) {
		t.Fatalf("sector %d has %q, wanted %q", n, s, want)
	}
}

func pad(s string) string { return s + strings.Repeat("\x00", api.SectorSize-len(s)) }

func TestP3_1(t *testing.T) {
	for _, n := range []int{-1 << 63, -1, 0, 7, 4097, 1<<63 - 1} {
		if d, e := New(n); d != nil || e != api.ErrArg {
			t.Error(n, e)
		}
	}
	for _, n := range []int{8, 9, 4096} {
		if d := fresh(t, n); d.Size() != n || d.Pending() != 0 {
			t.Error(n, d.Size())
		}
	}
	d := fresh(t, 8)
	for i := range 3 {
		do(t, d.Write(0, "x"), api.OK)
		if d.Pending() != i+1 {
			t.Error(d.Pending())
		}
	}
}

func TestP3_1Nil(t *testing.T) {
	for _, d := range []*Drive{nil, {}} {
		do(t, d.Write(0, ""), api.ErrNil)
		do(t, d.Write(-1, strings.Repeat("x", 65)), api.ErrNil)
		do(t, d.Sync(), api.ErrNil)
		if s, e := d.Read(0); s != "" || e != api.ErrNil {
			t.Error(s, e)
		}
		d.Fuse(0)
		d.Crash(api.Crash{Keep: 1})
		if d.Size() != 0 || d.Pending() != 0 || d.Copy() != nil {
			t.Error("something of nothing")
		}
	}
}

func TestP3_2(t *testing.T) {
	d := fresh(t, 8)
	shows(t, d, 7, "")
	do(t, d.Write(7, strings.Repeat("x", 64)), api.OK)
	shows(t, d, 7, strings.Repeat("x", 64))
	do(t, d.Write(7, "ab"), api.OK)
	shows(t, d, 7, "ab")
	d.Fuse(0)
	for _, n := range []int{-1, 8, 1 << 62} {
		do(t, d.Write(n, strings.Repeat("x", 65)), api.ErrArg)
		if s, e := d.Read(n); s != "" || e != api.ErrArg {
			t.Error(s, e)
		}
	}
	do(t, d.Write(0, strings.Repeat("x", 65)), api.ErrLong)
	do(t, d.Write(0, "a"), api.ErrDown)
	shows(t, d, 0, "")
	if d.Pending() != 2 {
		t.Error(d.Pending())
	}
}

func TestP3_3(t *testing.T) {
	d := fresh(t, 8)
	do(t, d.Write(1, "ab"), api.OK)
	do(t, d.Sync(), api.OK)
	if d.Pending() != 0 {
		t.Error(d.Pending())
	}
	d.Fuse(2)
	do(t, d.Write(9, "a"), api.ErrArg) // an error burns nothing
	do(t, d.Write(2, "cd"), api.OK)
	do(t, d.Sync(), api.OK)
	do(t, d.Write(3, "ef"), api.ErrDown)
	do(t, d.Sync(), api.ErrDown)
	do(t, d.Sync(), api.ErrDown)
	shows(t, d, 3, "")
	d.Crash(api.Crash{})
	do(t, d.Write(3, "ef"), api.OK)
	shows(t, d, 1, "ab")
	shows(t, d, 2, "cd")
	d.Fuse(0)
	d.Fuse(-1)
	do(t, d.Write(3, "gh"), api.OK)
	d.Fuse(1)
	do(t, d.Sync(), api.OK)
	do(t, d.Sync(), api.ErrDown)
	d.Crash(api.Crash{Keep: 1})
	shows(t, d, 3, "gh")
}

func TestP3_4(t *testing.T) {
	for _, x := range []struct {
		c    api.Crash
		want string
	}{
		{api.Crash{Torn: -1}, "ab"}, {api.Crash{Keep: 1, Torn: -1}, "cd"}, {api.Crash{Torn: 0, At: 1}, "cb"},
		{api.Crash{Keep: 1, Torn: 0, At: 1}, "cb"}, {api.Crash{Keep: 1, Torn: 0, At: -5}, "ab"},
		{api.Crash{Torn: 0, At: 0}, "ab"}, {api.Crash{Torn: 0, At: 64}, "cd"}, {api.Crash{Torn: 0, At: 1 << 62}, "cd"},
		{api.Crash{Keep: 2, Torn: 1, At: 1}, "ab"}, {api.Crash{Keep: 1<<64 - 2, Torn: 9}, "ab"},
	} {
		d := fresh(t, 8)
		do(t, d.Write(0, "ab"), api.OK)
		do(t, d.Sync(), api.OK)
		do(t, d.Write(0, "cd"), api.OK)
		d.Crash(x.c)
		shows(t, d, 0, x.want)
		if d.Pending() != 0 {
			t.Error(d.Pending())
		}
		d.Crash(api.Crash{Keep: 1})
		shows(t, d, 0, x.want)
	}
}

func TestP3_4Order(t *testing.T) {
	d := fresh(t, 8)
	for i := range 130 { // the bits are those of the index modulo 64
		do(t, d.Write(i%2, string(rune('0'+i%10))+strings.Repeat("y", 1+i%3)), api.OK)
	}
	d.Crash(api.Crash{Keep: 1<<3 | 1<<2, Torn: 67, At: 1})
	shows(t, d, 0, "6y") // the write 66; 2 is under it
	shows(t, d, 1, "7y") // of 67 one byte, over the write 3
}

func TestP3_5(t *testing.T) {
	d := fresh(t, 8)
	do(t, d.Write(0, "ab"), api.OK)
	do(t, d.Sync(), api.OK)
	do(t, d.Write(0, "cd"), api.OK)
	d.Fuse(1)
	c := d.Copy()
	do(t, d.Write(0, "ef"), api.OK)
	d.Crash(api.Crash{Keep: 2, Torn: -1})
	shows(t, d, 0, "ef")
	shows(t, c, 0, "cd")
	if c.Pending() != 1 || c.Size() != 8 {
		t.Error(c.Pending())
	}
	do(t, c.Write(1, "x"), api.OK)
	do(t, c.Write(1, "y"), api.ErrDown)
	do(t, d.Write(1, "z"), api.OK)
	c.Crash(api.Crash{Torn: -1})
	shows(t, c, 0, "ab")
	shows(t, c, 1, "")
	shows(t, d, 1, "z")
}

func TestP3_6(t *testing.T) {
	r := rand.New(rand.NewSource(1))
	for range 300 {
		d := fresh(t, 8)
		for i := range 8 {
			do(t, d.Write(i, strings.Repeat("o", 64)), api.OK)
		}
		do(t, d.Sync(), api.OK)
		before := d.Copy()
		d.Crash(api.Crash{Keep: r.Uint64(), Torn: r.Intn(3), At: r.Intn(70)})
		for i := range 8 {
			want, _ := before.Read(i)
			shows(t, d, i, want)
		}
		written := make([][]string, 8)
		for i := range r.Intn(20) {
			n := r.Intn(4)
			s := pad(strings.Repeat(string(rune('a'+i)), r.Intn(65)))
			do(t, d.Write(n, s), api.OK)
			written[n] = append(written[n], s)
		}
		at := r.Intn(70)
		d.Crash(api.Crash{Keep: r.Uint64(), Torn: r.Intn(20), At: at})
		for i := range 8 {
			s, _ := d.Read(i)
			if !possible(s, append(written[i], strings.Repeat("o", 64)), min(at, 64)) {
				t.Fatalf("sector %d has %q", i, s)
			}
		}
	}
}

// possible: s is one of these, or the first bytes of one of them and the rest of another one.
func possible(s string, l []string, at int) bool {
	for _, a := range l {
		for _, b := range l {
			if s == a || s == a[:at]+b[at:] {
				return true
			}
		}
	}
	return false
}
