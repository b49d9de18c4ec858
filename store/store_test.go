package store

import (
	"math/rand"
	"reflect"
	"slices"
	"strings"
	"testing"

	"quittance/api"
	"quittance/drive"
	"quittance/stage"
	"quittance/tally"
	"quittance/wal"
)

func n(x uint64) api.Field { return api.Field{N: x} }
func s(x string) api.Field { return api.Field{S: x} }

func l(f ...api.Field) []api.Field { return f }

func schemas() []api.Schema {
	return []api.Schema{{Name: "a", Kinds: "ns", Key: 1, Indexes: [][]int{{1}, {1, 0}}}, {Name: "b", Kinds: "s", Key: 1}}
}

// plain are those of the examples.
func plain() []api.Schema { return []api.Schema{{Name: "a", Kinds: "ns", Key: 1}} }

func disk(t *testing.T, sectors int) *drive.Drive {
	t.Helper()
	d, e := drive.New(sectors)
	do(t, e, api.OK)
	return d
}

func open(t *testing.T, d *drive.Drive, l []api.Schema) *Store {
	t.Helper()
	x, e := Open(d, l)
	if x == nil || e != api.OK {
		t.Fatal(e)
	}
	return x
}

func do(t *testing.T, have, want api.Errno) {
	t.Helper()
	if have != want {
		t.Fatalf("%d, wanted %d", have, want)
	}
}

func is(t *testing.T, want []api.Field, no api.Errno) func([]api.Field, api.Errno) {
	return func(r []api.Field, e api.Errno) {
		t.Helper()
		if !slices.Equal(r, want) || e != no {
			t.Fatalf("%v %d, wanted %v %d", r, e, want, no)
		}
	}
}

// put returns a set that puts a record into the first table.
func put(t *testing.T, x *Store, key uint64, text string) *stage.Set {
	t.Helper()
	set := x.Stage()
	do(t, set.Put(0, l(n(key), s(text))), api.OK)
	return set
}

// all returns all records of all tables.
func all(t *testing.T, x *Store) [][][]api.Field {
	t.Helper()
	var l [][][]api.Field
	for i := range x.tables {
		r, e := x.All(i)
		do(t, e, api.OK)
		l = append(l, r)
	}
	return l
}

func TestP18_1(t *testing.T) {
	for _, d := range []*drive.Drive{nil, {}} {
		if x, e := Open(d, nil); x != nil || e != api.ErrNil {
			t.Error(e)
		}
	}
	d := disk(t, 16)
	if x, e := Open(d, nil); x != nil || e != api.ErrArg {
		t.Error(e)
	}
	x := open(t, d, plain())
	if x.Age() != 0 || x.Room() != 8 || d.Pending() != 0 {
		t.Error(x.Age(), x.Room())
	}
	do(t, x.Commit(put(t, x, 1, "x")), api.OK)
	if x.Age() != 1 || x.Room() != 7 {
		t.Error(x.Age(), x.Room())
	}
	for _, other := range [][]api.Schema{{{Name: "a", Kinds: "n", Key: 1}}, {{Name: "b", Kinds: "ns", Key: 1}}, {{Name: "a", Kinds: "ns", Key: 2}}, schemas(), {{Name: "a", Kinds: "ns", Key: 1, Indexes: [][]int{{0}}}}} {
		if y, e := Open(d, other); y != nil || e != api.ErrForm {
			t.Error(other, e)
		}
	}
	if x, e := Open(d, nil); x != nil || e != api.ErrArg {
		t.Error(e)
	}
}

// TestP18_1Form lays transactions into the log by hand.
func TestP18_1Form(t *testing.T) {
	schema := tally.Row([]string{"\x01a\x02ns\x01\x00"})
	for _, x := range []struct {
		txns [][]string
		e    api.Errno
		want [][]api.Field
	}{
		{[][]string{{schema}}, api.OK, nil}, {[][]string{{schema, "\x00\x01\x01x"}, {"\x00\x02\x01y", "\x00\x01\x01z"}, {}, {"\x01\x02", "\x01\x07"}}, api.OK, [][]api.Field{l(n(1), s("z"))}},
		{[][]string{{}}, api.ErrForm, nil}, {[][]string{{"x"}}, api.ErrForm, nil}, {[][]string{{"\x00\x01\x01x"}}, api.ErrForm, nil}, {[][]string{{schema, "\x00\x01\x01"}}, api.ErrForm, nil},
		{[][]string{{schema}, {"\x02\x01x"}}, api.ErrForm, nil}, {[][]string{{schema}, {schema}}, api.ErrForm, nil}, {[][]string{{tally.Row([]string{"\x01a\x02ns\x01\x00\x00"})}}, api.ErrForm, nil},
	} {
		d := disk(t, 32)
		w, _ := wal.Open(d)
		for _, txn := range x.txns {
			do(t, w.Commit(txn), api.OK)
		}
		y, e := Open(d, plain())
		if e != x.e || (y == nil) != (e != api.OK) {
			t.Fatal(x.txns, e)
		}
		if e == api.OK && !reflect.DeepEqual(all(t, y), [][][]api.Field{x.want}) {
			t.Error(all(t, y))
		}
	}
	d := disk(t, 32)
	do(t, open(t, d, schemas()).Commit(put(t, open(t, d, schemas()), 5, "x")), api.OK)
	w, _ := wal.Open(d)
	want := [][]string{{tally.Row([]string{"\x01a\x02ns\x01\x02\x01\x01\x02\x01\x00", "\x01b\x01s\x01\x00"}), "\x00\x05\x01x"}}
	if got := w.Txns(); !reflect.DeepEqual(got, want) {
		t.Errorf("%q", got)
	}
}

func TestP18_1Nil(t *testing.T) {
	set, _ := stage.New(plain())
	for _, x := range []*Store{nil, {}} {
		do(t, x.Commit(nil), api.ErrNil)
		do(t, x.Commit(set), api.ErrNil)
		do(t, x.Save(), api.ErrNil)
		is(t, nil, api.ErrNil)(x.Get(-1, nil))
		is(t, nil, api.ErrNil)(x.Look(set, -1, nil))
		r, e := x.Find(-1, -5, nil, nil, 0)
		many, e2 := x.Count(-1, -5, nil)
		r2, e3 := x.All(-1)
		if len(r) > 0 || e != api.ErrNil || many != 0 || e2 != api.ErrNil || len(r2) > 0 || e3 != api.ErrNil {
			t.Error(e, e2, e3)
		}
		if x.Stage() != nil || x.Age() != 0 || x.Room() != 0 {
			t.Error("something of nothing")
		}
	}
}

func TestP18_2(t *testing.T) {
	d := disk(t, 16)
	x := open(t, d, plain())
	for _, set := range []*stage.Set{nil, {}} {
		do(t, x.Commit(set), api.ErrNil)
		is(t, nil, api.ErrNil)(x.Look(set, -1, nil))
	}
	other, _ := stage.New([]api.Schema{{Name: "c", Kinds: "s", Key: 1}})
	do(t, x.Commit(other), api.OK)
	do(t, other.Put(0, l(s("x"))), api.OK)
	do(t, x.Commit(other), api.ErrArg)
	is(t, nil, api.ErrArg)(x.Look(other, 0, l(n(1))))
	do(t, x.Commit(x.Stage()), api.OK)
	if x.Age() != 0 || d.Pending() != 0 {
		t.Error("something is written")
	}
	set := put(t, x, 1, "x")
	do(t, x.Commit(set), api.OK)
	if set.Len() != 1 {
		t.Error("the set is changed")
	}
	set.Clear()
	do(t, set.Drop(0, l(n(1))), api.OK)
	do(t, set.Put(0, l(n(2), s("y"))), api.OK)
	do(t, x.Commit(set), api.OK)
	for range 2 {
		if x.Room() != 6 || !reflect.DeepEqual(all(t, x), [][][]api.Field{{l(n(2), s("y"))}}) {
			t.Error(x.Room(), all(t, x))
		}
		x = open(t, d, plain())
	}
	do(t, x.Save(), api.OK)
	if x.Age() != 3 || x.Room() != 7 {
		t.Error(x.Age(), x.Room())
	}
	if w, _ := wal.Open(d); !reflect.DeepEqual(w.Txns(), [][]string{{x.piece(), "\x00\x02\x01y"}}) {
		t.Errorf("%q", w.Txns())
	}
}

func TestP18_2Full(t *testing.T) {
	d := disk(t, 16)
	x := open(t, d, plain())
	text := strings.Repeat("x", 100)
	for i, no := range []api.Errno{api.OK, api.OK, api.OK, api.ErrFull} {
		do(t, x.Commit(put(t, x, uint64(i+1), text)), no)
	}
	if r, _ := x.All(0); x.Age() != 3 || len(r) != 3 {
		t.Error(x.Age(), len(r))
	}
	set := put(t, x, 4, text)
	do(t, set.Drop(0, l(n(2))), api.OK)
	do(t, x.Commit(set), api.OK) // fits, saved anew
	if r, _ := open(t, d, plain()).All(0); x.Age() != 4 || len(r) != 3 || r[2][0].N != 4 {
		t.Error(x.Age(), r)
	}
	large := disk(t, api.MostSectors)
	x = open(t, large, plain())
	set = x.Stage()
	for i := range uint64(13) {
		no := api.OK
		if i == 12 { // more than a sheaf can have
			no = api.ErrFull
		}
		set.Clear()
		do(t, set.Put(0, l(n(i), s(strings.Repeat("y", 8100)))), api.OK)
		do(t, x.Commit(set), no)
	}
	do(t, x.Save(), api.OK)
	if r, _ := open(t, large, plain()).All(0); len(r) != 12 {
		t.Error(len(r))
	}
}

func TestP18_2Down(t *testing.T) {
	d := disk(t, 32)
	x := open(t, d, plain())
	do(t, x.Commit(put(t, x, 1, "x")), api.OK)
	d.Fuse(1)
	do(t, x.Commit(put(t, x, 2, "y")), api.ErrDown)
	d.Fuse(-1)
	do(t, x.Commit(x.Stage()), api.ErrDown)
	do(t, x.Save(), api.ErrDown)
	do(t, x.Commit(nil), api.ErrNil)
	is(t, l(n(1), s("x")), api.OK)(x.Get(0, l(n(1))))
	is(t, nil, api.ErrNone)(x.Get(0, l(n(2))))
	d.Crash(api.Crash{})
	x = open(t, d, plain())
	d.Fuse(0)
	do(t, x.Save(), api.ErrDown)
	d.Fuse(-1)
	do(t, x.Commit(put(t, x, 2, "y")), api.ErrDown)
}

func TestP18_3(t *testing.T) {
	x := open(t, disk(t, 32), schemas())
	set := x.Stage()
	for i, text := range []string{"c", "a", "b"} {
		do(t, set.Put(0, l(n(uint64(i)), s(text))), api.OK)
	}
	do(t, set.Put(1, l(s("z"))), api.OK)
	do(t, x.Commit(set), api.OK)
	is(t, l(n(1), s("a")), api.OK)(x.Get(0, l(n(1))))
	is(t, l(s("z")), api.OK)(x.Get(1, l(s("z"))))
	is(t, nil, api.ErrNone)(x.Get(0, l(n(9))))
	is(t, nil, api.ErrForm)(x.Get(0, nil))
	if r, e := x.Find(0, 0, nil, l(n(1), s("a")), 1); len(r) != 1 || r[0][1].S != "b" || e != api.OK {
		t.Error(r, e)
	}
	if many, e := x.Count(0, 1, l(s("b"))); many != 1 || e != api.OK {
		t.Error(many, e)
	}
	if _, e := x.Find(0, 2, nil, nil, 1); e != api.ErrArg {
		t.Error(e)
	}
	for _, i := range []int{-1, 2, 1 << 62} {
		is(t, nil, api.ErrArg)(x.Get(i, nil))
		r, e := x.Find(i, 0, nil, nil, 1)
		many, e2 := x.Count(i, 0, nil)
		r2, e3 := x.All(i)
		if len(r) > 0 || e != api.ErrArg || many != 0 || e2 != api.ErrArg || len(r2) > 0 || e3 != api.ErrArg {
			t.Error(i, e, e2, e3)
		}
	}
}

func TestP18_4(t *testing.T) {
	x := open(t, disk(t, 32), plain())
	do(t, x.Commit(put(t, x, 1, "x")), api.OK)
	set := put(t, x, 2, "y")
	do(t, set.Drop(0, l(n(1))), api.OK)
	is(t, nil, api.ErrNone)(x.Look(set, 0, l(n(1))))
	is(t, l(n(2), s("y")), api.OK)(x.Look(set, 0, l(n(2))))
	is(t, nil, api.ErrNone)(x.Get(0, l(n(2))))
	set.Clear()
	is(t, l(n(1), s("x")), api.OK)(x.Look(set, 0, l(n(1))))
	is(t, nil, api.ErrNone)(x.Look(set, 0, l(n(3))))
	is(t, nil, api.ErrArg)(x.Look(set, 1, nil))
	is(t, nil, api.ErrForm)(x.Look(set, 0, l(s("x"))))
	other := open(t, disk(t, 32), schemas())
	long := l(s(strings.Repeat("x", 1023)))
	is(t, nil, api.ErrLong)(other.Look(other.Stage(), 1, long))
	is(t, nil, api.ErrNone)(other.Get(1, long))
}

// change stages some changes, and makes them in a model.
func change(t *testing.T, r *rand.Rand, set *stage.Set, model map[uint64]string) {
	t.Helper()
	for range 1 + r.Intn(3) {
		key, text := uint64(r.Intn(8)), strings.Repeat(string(rune('a'+r.Intn(26))), r.Intn(60))
		if r.Intn(3) == 0 {
			do(t, set.Drop(0, l(n(key))), api.OK)
			delete(model, key)
		} else {
			do(t, set.Put(0, l(n(key), s(text))), api.OK)
			model[key] = text
		}
	}
}

func same(t *testing.T, x *Store, model map[uint64]string) bool {
	t.Helper()
	r, e := x.All(0)
	do(t, e, api.OK)
	for _, f := range r {
		if text, is := model[f[0].N]; !is || text != f[1].S {
			return false
		}
	}
	return len(r) == len(model)
}

func clone(model map[uint64]string) map[uint64]string {
	c := map[uint64]string{}
	for k, v := range model {
		c[k] = v
	}
	return c
}

// TestP18_5 fails the power at will, and goes on with what is there.
func TestP18_5(t *testing.T) {
	r := rand.New(rand.NewSource(29))
	for range 150 {
		d := disk(t, 24)
		x := open(t, d, schemas())
		model := map[uint64]string{}
		for range 40 {
			then, set := clone(model), x.Stage()
			change(t, r, set, then)
			if r.Intn(3) == 0 {
				d.Fuse(r.Intn(12))
			}
			e := x.Commit(set)
			if r.Intn(6) == 0 && e != api.ErrDown {
				if e == api.OK {
					model = then
				}
				then = model
				e = x.Save()
			}
			switch {
			case e == api.OK:
				model = then
			case e == api.ErrDown:
				d.Crash(api.Crash{Keep: r.Uint64(), Torn: r.Intn(8) - 1, At: r.Intn(65)})
				x = open(t, d, schemas())
				if same(t, x, then) {
					model = then
				}
			}
			if !same(t, x, model) {
				t.Fatal(all(t, x), model)
			}
			d.Fuse(-1)
		}
	}
}

func TestP18_6(t *testing.T) {
	r := rand.New(rand.NewSource(30))
	for range 60 {
		d := disk(t, 16)
		x := open(t, d, schemas())
		model := map[uint64]string{}
		for range 30 {
			then, set := clone(model), x.Stage()
			change(t, r, set, then)
			age, room := x.Age(), x.Room()
			switch e := x.Commit(set); e {
			case api.OK:
				model = then
			case api.ErrFull:
				if x.Age() != age || x.Room() != room || d.Pending() != 0 {
					t.Fatal("the log is changed")
				}
			default:
				t.Fatal(e)
			}
			if r.Intn(4) == 0 {
				do(t, x.Save(), api.OK)
			}
			if !same(t, x, model) || !same(t, open(t, d, schemas()), model) {
				t.Fatal(all(t, x), model)
			}
		}
	}
}

func TestP18_7(t *testing.T) {
	r := rand.New(rand.NewSource(31))
	x := open(t, disk(t, 512), schemas())
	for range 300 {
		set := x.Stage()
		change(t, r, set, map[uint64]string{})
		var want [][]api.Field
		for key := range uint64(10) {
			f, e := x.Look(set, 0, l(n(key)))
			if (f == nil) != (e == api.ErrNone) {
				t.Fatal(f, e)
			}
			want = append(want, f)
		}
		do(t, x.Commit(set), api.OK)
		for key := range uint64(10) {
			if f, _ := x.Get(0, l(n(key))); !slices.Equal(f, want[key]) {
				t.Fatal(key, f, want[key])
			}
		}
	}
}
