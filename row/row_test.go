package row

import (
	"math/rand"
	"slices"
	"strings"
	"testing"

	"quittance/api"
	"quittance/drive"
	"quittance/leaf"
	"quittance/sheaf"
)

func disk8(t *testing.T, sectors int) *drive.Drive {
	t.Helper()
	d, e := drive.New(sectors)
	do(t, e, api.OK)
	return d
}

func open(t *testing.T, d *drive.Drive, from, many int) *Row {
	t.Helper()
	r, e := Open(d, from, many)
	do(t, e, api.OK)
	return r
}

func do(t *testing.T, have, want api.Errno) {
	t.Helper()
	if have != want {
		t.Fatalf("%d, wanted %d", have, want)
	}
}

type state struct {
	texts      string
	first, top uint64
	end, room  int
}

func is(t *testing.T, r *Row, want state) {
	t.Helper()
	have := state{strings.Join(r.Texts(), ","), r.First(), r.Top(), r.End(), r.Room()}
	if have != want {
		t.Fatalf("%v, wanted %v", have, want)
	}
}

func TestP5_1(t *testing.T) {
	for _, d := range []*drive.Drive{nil, {}} {
		if r, e := Open(d, -1, 0); r != nil || e != api.ErrNil {
			t.Error(e)
		}
	}
	d := disk8(t, 8)
	for _, x := range [][2]int{{0, 0}, {0, -1}, {-1, 1}, {0, 9}, {8, 1}, {7, 2}, {1<<63 - 1, 1}, {1, 1<<63 - 1}, {1<<63 - 1, 1<<63 - 1}, {-1 << 63, 8}} {
		if r, e := Open(d, x[0], x[1]); r != nil || e != api.ErrArg {
			t.Error(x, e)
		}
	}
	is(t, open(t, d, 0, 8), state{room: 8})
	is(t, open(t, d, 7, 1), state{room: 1})
	if d.Pending() != 0 {
		t.Error("something is written")
	}
	for i, x := range []struct {
		stamp uint64
		s     string
	}{{3, "a"}, {5, "b"}, {5, "c"}, {9, "d"}} { // the same stamp ends the row
		l, _ := sheaf.Put(x.stamp, x.s)
		do(t, d.Write(2+i, l[0]), api.OK)
	}
	is(t, open(t, d, 2, 6), state{"a,b", 3, 9, 2, 4})
	is(t, open(t, d, 4, 2), state{"c,d", 5, 9, 2, 0})
	is(t, open(t, d, 1, 4), state{"", 0, 5, 0, 4})
}

func TestP5_2(t *testing.T) {
	for _, r := range []*Row{nil, {}} {
		is(t, r, state{})
		do(t, r.Add(0, ""), api.ErrNil)
		do(t, r.Begin(1, strings.Repeat("x", api.MaxSheaf+1)), api.ErrNil)
	}
	r := open(t, disk8(t, 8), 0, 4)
	do(t, r.Add(1, "a"), api.OK)
	l := r.Texts()
	l[0] = "changed"
	_ = append(l, "more")
	do(t, r.Add(2, "b"), api.OK)
	is(t, r, state{"a,b", 1, 2, 2, 2})
}

func TestP5_3(t *testing.T) {
	d := disk8(t, 8)
	r := open(t, d, 3, 4)
	long, fifty := strings.Repeat("x", api.MaxSheaf+1), strings.Repeat("y", 50)
	do(t, r.Add(0, long), api.ErrArg)
	do(t, r.Add(1, "a"), api.OK)
	do(t, r.Add(2, fifty), api.OK)
	both := state{"a," + fifty, 1, 2, 3, 1}
	is(t, r, both)
	for _, put := range []func(uint64, string) api.Errno{r.Add, r.Begin} {
		do(t, put(2, "b"), api.ErrArg)
		do(t, put(1, long), api.ErrArg)
		do(t, put(3, long), api.ErrLong)
		do(t, put(3, long[:200]), api.ErrFull)
	}
	do(t, r.Add(3, fifty), api.ErrFull)
	is(t, r, both)
	if d.Pending() != 3 {
		t.Error(d.Pending())
	}
	do(t, r.Begin(9, "c"), api.OK)
	is(t, r, state{"c", 9, 9, 1, 3})
	do(t, r.Begin(10, long[:190]), api.OK)
	is(t, r, state{long[:190], 10, 10, 4, 0})
	if s, _ := d.Read(2); strings.Trim(s, "\x00") != "" {
		t.Error("a sector of nobody's is written")
	}
	if s, _ := d.Read(7); strings.Trim(s, "\x00") != "" {
		t.Error("a sector of nobody's is written")
	}
}

func TestP5_3Down(t *testing.T) {
	for _, begin := range []bool{false, true} {
		d := disk8(t, 8)
		r := open(t, d, 0, 8)
		do(t, r.Add(1, "a"), api.OK)
		put := r.Add
		if begin {
			put = r.Begin
		}
		d.Fuse(1)
		do(t, put(2, strings.Repeat("z", 100)), api.ErrDown)
		is(t, r, state{"a", 1, 1, 1, 7})
		d.Fuse(-1)
		do(t, r.Add(0, "b"), api.ErrDown)
		do(t, r.Begin(3, strings.Repeat("x", api.MaxSheaf+1)), api.ErrDown)
		is(t, r, state{"a", 1, 1, 1, 7})
		if n := open(t, d, 0, 8).Top(); n != 2 {
			t.Error(n)
		}
	}
}

func TestP5_4(t *testing.T) {
	r := rand.New(rand.NewSource(5))
	for range 100 {
		d := disk8(t, 32)
		x := open(t, d, 5, 20)
		for range 10 {
			s := strings.Repeat(string(rune('a'+r.Intn(26))), r.Intn(200))
			if r.Intn(4) == 0 {
				x.Begin(x.Top()+uint64(r.Intn(3)), s)
			} else {
				x.Add(x.Top()+uint64(r.Intn(3)), s)
			}
			y := open(t, d, 5, 20)
			is(t, y, state{strings.Join(x.Texts(), ","), x.First(), x.Top(), x.End(), x.Room()})
		}
	}
}

// TestP5_5 fails the power at will, and goes on with what is left.
func TestP5_5(t *testing.T) {
	r := rand.New(rand.NewSource(6))
	for range 200 {
		d := disk8(t, 24)
		x := open(t, d, 2, 20)
		for range 12 {
			do(t, d.Sync(), api.OK)
			before := x.Texts()
			all := x.Texts()
			for range r.Intn(4) {
				if x.Add(x.Top()+1, text(r)) == api.OK {
					all = x.Texts()
				}
			}
			d.Crash(api.Crash{Keep: r.Uint64() | r.Uint64(), Torn: r.Intn(12) - 4, At: r.Intn(66)})
			x = open(t, d, 2, 20)
			l := x.Texts()
			if len(l) < len(before) || len(l) > len(all) || !slices.Equal(l, all[:len(l)]) {
				t.Fatalf("%q: before %q, all %q", l, before, all)
			}
			anew(t, r, x, d)
			x = open(t, d, 2, 20)
		}
	}
}

// anew begins the row anew, with a failure directly after that, or none.
func anew(t *testing.T, r *rand.Rand, x *Row, d *drive.Drive) {
	if r.Intn(2) > 0 {
		return
	}
	stamp, s := x.Top()+1, text(r)
	do(t, x.Begin(stamp, s), api.OK)
	if r.Intn(2) > 0 {
		do(t, d.Sync(), api.OK)
	}
	d.Crash(api.Crash{Keep: r.Uint64() | r.Uint64(), Torn: r.Intn(5) - 1, At: r.Intn(66)})
	y := open(t, d, 2, 20)
	if y.First() >= stamp && !slices.Equal(y.Texts(), []string{s}) {
		t.Fatalf("%q, wanted %q", y.Texts(), s)
	}
}

// text is at times one whose later pieces look like the beginning of a sheaf.
func text(r *rand.Rand) string {
	s := strings.Repeat(string(rune('a'+r.Intn(26))), r.Intn(150))
	if r.Intn(2) == 0 {
		x, _ := leaf.Put(1, "\x01x")
		_, content, _ := leaf.Get(x)
		s = s[:min(len(s), 47)] + content + content
	}
	return s
}
