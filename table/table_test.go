package table

import (
	"cmp"
	"math/rand"
	"reflect"
	"slices"
	"strings"
	"testing"

	"quittance/api"
	"quittance/codec"
)

func n(x uint64) api.Field { return api.Field{N: x} }
func i(x int64) api.Field  { return api.Field{I: x} }
func s(x string) api.Field { return api.Field{S: x} }

func row(key uint64, text string, number int64) []api.Field {
	return []api.Field{n(key), s(text), i(number)}
}

func schema() api.Schema {
	return api.Schema{Name: "t", Kinds: "nsi", Key: 1, Indexes: [][]int{{1}, {2, 1}}}
}

func fresh(t *testing.T) *Table {
	t.Helper()
	x, e := New(schema())
	if x == nil || e != api.OK {
		t.Fatal(e)
	}
	return x
}

// is checks records that a call returned.
func is(t *testing.T, want ...[]api.Field) func([][]api.Field, api.Errno) {
	return func(l [][]api.Field, e api.Errno) {
		t.Helper()
		if !slices.EqualFunc(l, want, slices.Equal) || e != api.OK {
			t.Errorf("%v %d, wanted %v", l, e, want)
		}
	}
}

// one checks a record that a call returned.
func one(t *testing.T, want []api.Field, no api.Errno) func([]api.Field, api.Errno) {
	return func(r []api.Field, e api.Errno) {
		t.Helper()
		if !slices.Equal(r, want) || e != no {
			t.Errorf("%v %d, wanted %v %d", r, e, want, no)
		}
	}
}

func filled(t *testing.T) *Table {
	t.Helper()
	x := fresh(t)
	one(t, nil, api.OK)(x.Put(row(1, "b", 5)))
	one(t, nil, api.OK)(x.Put(row(2, "a", 5)))
	one(t, row(1, "b", 5), api.OK)(x.Put(row(1, "c", 7)))
	return x
}

func TestP16_1(t *testing.T) {
	if x, e := New(api.Schema{Name: "t", Kinds: "n", Key: 2}); x != nil || e != api.ErrArg {
		t.Error(e)
	}
	given := schema()
	x, _ := New(given)
	given.Indexes[0][0] = 2
	if !reflect.DeepEqual(x.Schema(), schema()) || x.Len() != 0 || len(x.All()) != 0 {
		t.Error(x.Schema())
	}
	x.Schema().Indexes[1][0] = 0
	if !reflect.DeepEqual(x.Schema(), schema()) {
		t.Error(x.Schema())
	}
	x = filled(t)
	is(t, row(1, "c", 7), row(2, "a", 5))(x.All(), api.OK)
	if x.Len() != 2 {
		t.Error(x.Len())
	}
	l := x.All()
	l[0][1].S = "changed"
	is(t, row(1, "c", 7), row(2, "a", 5))(x.All(), api.OK)
}

func TestP16_1Nil(t *testing.T) {
	for _, x := range []*Table{nil, {}} {
		one(t, nil, api.ErrNil)(x.Put(nil))
		one(t, nil, api.ErrNil)(x.Drop(nil))
		one(t, nil, api.ErrNil)(x.Get(nil))
		l, e := x.Find(9, nil, nil, 0)
		many, e2 := x.Count(9, nil)
		if len(l) != 0 || e != api.ErrNil || many != 0 || e2 != api.ErrNil {
			t.Error(e, e2)
		}
		if !reflect.DeepEqual(x.Schema(), api.Schema{}) || x.Len() != 0 || len(x.All()) != 0 || x.Copy() != nil {
			t.Error("something of nothing")
		}
	}
}

func TestP16_2(t *testing.T) {
	x := filled(t)
	one(t, row(1, "c", 7), api.OK)(x.Get([]api.Field{n(1)}))
	one(t, nil, api.ErrNone)(x.Get([]api.Field{n(3)}))
	one(t, nil, api.ErrNone)(x.Drop([]api.Field{n(3)}))
	for _, key := range [][]api.Field{nil, {}, {s("1")}, {i(1)}, {n(1), s("c")}, {{N: 1, I: 1}}} {
		one(t, nil, api.ErrForm)(x.Get(key))
		one(t, nil, api.ErrForm)(x.Drop(key))
	}
	one(t, nil, api.ErrForm)(x.Put([]api.Field{n(1), s("c")}))
	one(t, nil, api.ErrForm)(x.Put([]api.Field{n(1), s("c"), s("d")}))
	one(t, nil, api.ErrLong)(x.Put(row(1, strings.Repeat("x", 1023), 5)))
	one(t, nil, api.ErrLong)(x.Put(row(9, strings.Repeat("x", 9000), 5)))
	is(t, row(1, "c", 7), row(2, "a", 5))(x.All(), api.OK)
	one(t, row(1, "c", 7), api.OK)(x.Drop([]api.Field{n(1)}))
	one(t, nil, api.ErrNone)(x.Get([]api.Field{n(1)}))
	is(t, row(2, "a", 5))(x.Find(0, nil, nil, 9))
	is(t, row(2, "a", 5))(x.Find(1, nil, nil, 9))
	y, _ := New(api.Schema{Name: "y", Kinds: "ss", Key: 1})
	one(t, nil, api.ErrLong)(y.Put([]api.Field{s(strings.Repeat("x", 1023)), s("")}))
	one(t, nil, api.ErrNone)(y.Get([]api.Field{s(strings.Repeat("x", 1023))}))
	one(t, nil, api.ErrNone)(y.Drop([]api.Field{s(strings.Repeat("x", 5000))}))
}

func TestP16_3(t *testing.T) {
	x := filled(t)
	is(t, row(2, "a", 5), row(1, "c", 7))(x.Find(0, nil, nil, 9))
	is(t, row(2, "a", 5))(x.Find(0, nil, nil, 1))
	is(t, row(2, "a", 5))(x.Find(1, []api.Field{i(5)}, nil, 9))
	is(t)(x.Find(1, []api.Field{i(6)}, nil, 9))
	is(t, row(2, "a", 5))(x.Find(1, []api.Field{i(5), s("a")}, nil, 9))
	is(t, row(2, "a", 5))(x.Find(-1, nil, row(1, "x", 0), 9))
	is(t, row(1, "c", 7), row(2, "a", 5))(x.Find(-1, nil, row(0, "x", 0), 1000))
	is(t, row(1, "c", 7))(x.Find(0, nil, row(2, "a", 99), 9))
	is(t, row(1, "c", 7))(x.Find(0, nil, row(0, "b", 99), 9))
	is(t)(x.Find(0, []api.Field{s("a")}, row(0, "b", 99), 9))
	is(t, row(1, "c", 7))(x.Find(0, []api.Field{s("c")}, row(0, "b", 99), 9)) // begin is further on
	for _, y := range []struct {
		index         int
		begin, behind []api.Field
		most          int
		e             api.Errno
	}{
		{2, []api.Field{s("a"), n(9)}, nil, 9, api.ErrArg}, {-2, nil, nil, 9, api.ErrArg}, {0, []api.Field{n(1)}, nil, 0, api.ErrArg}, {0, nil, nil, 1001, api.ErrArg}, {0, nil, nil, -1 << 63, api.ErrArg},
		{0, []api.Field{n(1)}, nil, 9, api.ErrForm}, {0, []api.Field{s(strings.Repeat("x", 1023))}, []api.Field{n(1)}, 9, api.ErrLong},
		{0, nil, []api.Field{n(1)}, 9, api.ErrForm}, {0, nil, row(1, strings.Repeat("x", 1023), 1), 9, api.ErrLong},
	} {
		if l, e := x.Find(y.index, y.begin, y.behind, y.most); len(l) != 0 || e != y.e {
			t.Error(y, l, e)
		}
	}
	for _, y := range []struct {
		index int
		begin []api.Field
		want  int
		e     api.Errno
	}{
		{1, nil, 2, api.OK}, {0, []api.Field{s("z")}, 0, api.OK}, {1, []api.Field{i(5)}, 1, api.OK}, {-1, []api.Field{n(2)}, 1, api.OK},
		{2, nil, 0, api.ErrArg}, {-2, []api.Field{i(5)}, 0, api.ErrArg}, {0, []api.Field{i(5)}, 0, api.ErrForm}, {0, []api.Field{s(strings.Repeat("x", 1023))}, 0, api.ErrLong},
	} {
		if many, e := x.Count(y.index, y.begin); many != y.want || e != y.e {
			t.Error(y, many, e)
		}
	}
}

func TestP16_4(t *testing.T) {
	x := filled(t)
	c := x.Copy()
	x.Put(row(3, "d", 1))
	x.Drop([]api.Field{n(1)})
	is(t, row(2, "a", 5), row(1, "c", 7))(c.Find(0, nil, nil, 9))
	is(t, row(1, "c", 7), row(2, "a", 5))(c.All(), api.OK)
	c.Put(row(4, "e", 1))
	is(t, row(2, "a", 5), row(3, "d", 1))(x.All(), api.OK)
	if !reflect.DeepEqual(c.Schema(), schema()) {
		t.Error(c.Schema())
	}
}

// TestP16_5 holds a table against a list, and goes through it page by page.
func TestP16_5(t *testing.T) {
	r := rand.New(rand.NewSource(27))
	x := fresh(t)
	model := map[uint64][]api.Field{}
	for range 3000 {
		a := row(uint64(r.Intn(300)), strings.Repeat("ab\x00", 2)[:r.Intn(7)], int64(r.Intn(5)-2))
		old := model[a[0].N]
		if r.Intn(3) == 0 {
			no := api.OK
			if old == nil {
				no = api.ErrNone
			}
			one(t, old, no)(x.Drop(a[:1]))
			delete(model, a[0].N)
		} else {
			one(t, old, api.OK)(x.Put(a))
			model[a[0].N] = a
		}
	}
	for index := -1; index < 2; index++ {
		var want [][]api.Field
		for _, a := range model {
			want = append(want, a)
		}
		slices.SortFunc(want, func(a, b []api.Field) int {
			p, _ := codec.Place(schema(), index, a)
			q, _ := codec.Place(schema(), index, b)
			return cmp.Compare(p, q)
		})
		is(t, want...)(x.Find(index, nil, nil, 1000))
		for _, most := range []int{1, 7, 50} {
			var l [][]api.Field
			var behind []api.Field
			for {
				page, e := x.Find(index, nil, behind, most)
				if e != api.OK || len(page) == 0 {
					break
				}
				l = append(l, page...)
				behind = page[len(page)-1]
			}
			is(t, want...)(l, api.OK)
		}
		for _, a := range want {
			letters, _ := codec.Letters(schema(), index)
			begin := []api.Field{a[[]int{0, 1, 2}[index+1]]}
			var some [][]api.Field
			for _, b := range want {
				if b[[]int{0, 1, 2}[index+1]] == begin[0] {
					some = append(some, b)
				}
			}
			is(t, some...)(x.Find(index, begin, nil, 1000))
			if many, e := x.Count(index, begin); many != len(some) || e != api.OK {
				t.Fatal(letters, many, len(some))
			}
		}
	}
}

func TestP16_6(t *testing.T) {
	x := filled(t)
	x.Put(row(1, strings.Repeat("x", 1023), 5))
	x.Put([]api.Field{n(1)})
	x.Drop(nil)
	x.Drop([]api.Field{n(9)})
	x.Find(0, nil, nil, 0)
	is(t, row(2, "a", 5), row(1, "c", 7))(x.Find(0, nil, nil, 9))
	is(t, row(2, "a", 5), row(1, "c", 7))(x.Find(1, nil, nil, 9))
	is(t, row(1, "c", 7), row(2, "a", 5))(x.All(), api.OK)
}
