package stage

import (
	"math/rand"
	"reflect"
	"slices"
	"strconv"
	"strings"
	"testing"

	"quittance/api"
)

func n(x uint64) api.Field { return api.Field{N: x} }
func s(x string) api.Field { return api.Field{S: x} }

func l(f ...api.Field) []api.Field { return f }

func schemas() []api.Schema {
	return []api.Schema{{Name: "a", Kinds: "ns", Key: 1, Indexes: [][]int{{1}}}, {Name: "b", Kinds: "s", Key: 1}}
}

func fresh(t *testing.T) *Set {
	t.Helper()
	x, e := New(schemas())
	if x == nil || e != api.OK {
		t.Fatal(e)
	}
	return x
}

func do(t *testing.T, have, want api.Errno) {
	t.Helper()
	if have != want {
		t.Errorf("%d, wanted %d", have, want)
	}
}

func pieces(t *testing.T, x *Set, want ...string) {
	t.Helper()
	if got := x.Pieces(); !slices.Equal(got, want) || x.Len() != len(want) {
		t.Errorf("%q, wanted %q", got, want)
	}
}

var long = strings.Repeat("x", 1023)

func TestP17_1(t *testing.T) {
	many := func(k int) []api.Schema {
		var l []api.Schema
		for i := range k {
			l = append(l, api.Schema{Name: strconv.Itoa(i), Kinds: "n", Key: 1})
		}
		return l
	}
	same := append(schemas(), schemas()[0])
	for _, bad := range [][]api.Schema{nil, {}, {{}}, many(33), same, append(schemas(), api.Schema{Name: "c", Kinds: "x", Key: 1})} {
		x, e := New(bad)
		y, e2 := Read(bad, []string{"wrong"})
		if x != nil || e != api.ErrArg || y != nil || e2 != api.ErrArg {
			t.Error(bad, e, e2)
		}
	}
	for _, k := range []int{1, 32} {
		x, e := New(many(k))
		if e != api.OK {
			t.Error(k, e)
		}
		do(t, x.Put(k-1, l(n(5))), api.OK)
	}
	given := schemas()
	x, _ := New(given)
	given[0].Indexes[0][0], given[1].Kinds = 7, "n"
	do(t, x.Put(1, l(s("x"))), api.OK)
	do(t, x.Put(0, l(n(7), s("y"))), api.OK)
	do(t, x.Drop(0, l(n(3))), api.OK)
	pieces(t, x, "\x01\x03", "\x00\x07\x01y", "\x02\x01x")
	want := []api.Change{{Table: 0, Drop: true, Fields: l(n(3))}, {Table: 0, Fields: l(n(7), s("y"))}, {Table: 1, Fields: l(s("x"))}}
	if got := x.Changes(); !reflect.DeepEqual(got, want) {
		t.Error(got)
	}
	x.Clear()
	pieces(t, x)
	if len(x.Changes()) != 0 {
		t.Error(x.Changes())
	}
}

func TestP17_1Nil(t *testing.T) {
	for _, x := range []*Set{nil, {}} {
		x.Clear()
		pieces(t, x)
		if len(x.Changes()) != 0 {
			t.Error(x.Changes())
		}
		do(t, x.Put(-1, nil), api.ErrNil)
		do(t, x.Drop(-1, nil), api.ErrNil)
		do(t, x.Add(""), api.ErrNil)
		do(t, x.Undo(-1, nil), api.ErrNil)
		r, st, e := x.Look(-1, nil)
		if len(r) != 0 || st != api.StNone || e != api.ErrNil {
			t.Error(e)
		}
	}
}

func TestP17_2(t *testing.T) {
	x := fresh(t)
	do(t, x.Put(0, l(n(3), s("a"))), api.OK)
	before := x.Pieces()
	for _, table := range []int{-1, 2, 1 << 62, -1 << 63} {
		do(t, x.Put(table, nil), api.ErrArg)
		do(t, x.Drop(table, nil), api.ErrArg)
		do(t, x.Undo(table, nil), api.ErrArg)
	}
	do(t, x.Put(0, l(s("x"))), api.ErrForm)
	do(t, x.Put(0, l(n(4))), api.ErrForm)
	do(t, x.Put(0, l(n(4), s(long))), api.ErrLong) // its index's key is too long
	do(t, x.Put(1, l(s(strings.Repeat("x", 9000)))), api.ErrLong)
	for _, key := range [][]api.Field{nil, l(s("x")), l(n(3), s("a"))} {
		do(t, x.Drop(0, key), api.ErrForm)
		do(t, x.Undo(0, key), api.ErrForm)
	}
	do(t, x.Drop(1, l(s(long))), api.ErrLong)
	do(t, x.Undo(1, l(s(long))), api.ErrLong)
	do(t, x.Undo(0, l(n(4))), api.ErrNone)
	pieces(t, x, before...)
	do(t, x.Drop(0, l(n(3))), api.OK)
	pieces(t, x, "\x01\x03")
	do(t, x.Put(0, l(n(3), s("z"))), api.OK)
	pieces(t, x, "\x00\x03\x01z")
	do(t, x.Undo(0, l(n(3))), api.OK)
	do(t, x.Undo(0, l(n(3))), api.ErrNone)
	pieces(t, x)
}

func TestP17_2Add(t *testing.T) {
	x := fresh(t)
	for _, piece := range []string{
		"", "\x80", "\x00", "\x00\x03", "\x00\x03\x01zz", "\x04\x01x", "\x05\x01x", strings.Repeat("\xff", 9) + "\x7f", "\x01", "\x01\x03\x00", "\x01\x03\x01z",
		"\x02" + "\x86\x7f" + long, "\x03" + "\x86\x7f" + long, "\x00\x03\x86\x7f" + long,
	} {
		do(t, x.Add(piece), api.ErrForm)
	}
	pieces(t, x)
	do(t, x.Add("\x00\x03\x01z"), api.OK)
	do(t, x.Add("\x03\x01x"), api.OK)
	do(t, x.Add("\x01\x03"), api.OK)
	pieces(t, x, "\x01\x03", "\x03\x01x")
}

func TestP17_2Full(t *testing.T) {
	x := fresh(t)
	for i := range api.MaxChanges {
		do(t, x.Put(0, l(n(uint64(i)), s(""))), api.OK)
	}
	do(t, x.Put(0, l(n(1000), s(""))), api.ErrFull)
	do(t, x.Put(0, l(n(1000))), api.ErrForm)
	do(t, x.Drop(0, l(n(1000))), api.ErrFull)
	do(t, x.Drop(1, l(s(long))), api.ErrLong)
	do(t, x.Add("\x02\x01x"), api.ErrFull)
	do(t, x.Add("\x02\x01"), api.ErrForm)
	do(t, x.Put(0, l(n(999), s("a"))), api.OK)
	do(t, x.Drop(0, l(n(998))), api.OK)
	do(t, x.Add("\x01\x03"), api.OK)
	if x.Len() != api.MaxChanges {
		t.Error(x.Len())
	}
	do(t, x.Undo(0, l(n(5))), api.OK)
	do(t, x.Drop(0, l(n(1000))), api.OK)
}

func TestP17_3(t *testing.T) {
	x := fresh(t)
	do(t, x.Put(0, l(n(7), s("y"))), api.OK)
	do(t, x.Drop(0, l(n(3))), api.OK)
	for _, y := range []struct {
		table int
		key   []api.Field
		want  []api.Field
		st    api.Staged
		e     api.Errno
	}{
		{0, l(n(3)), nil, api.StDrop, api.OK}, {0, l(n(7)), l(n(7), s("y")), api.StPut, api.OK}, {0, l(n(8)), nil, api.StNone, api.OK},
		{1, l(s("")), nil, api.StNone, api.OK}, {2, l(n(7)), nil, api.StNone, api.ErrArg}, {-1, nil, nil, api.StNone, api.ErrArg},
		{0, l(s("a")), nil, api.StNone, api.ErrForm}, {0, nil, nil, api.StNone, api.ErrForm}, {1, l(s(long)), nil, api.StNone, api.ErrLong},
	} {
		if r, st, e := x.Look(y.table, y.key); !slices.Equal(r, y.want) || st != y.st || e != y.e {
			t.Error(y, r, st, e)
		}
	}
}

func TestP17_4(t *testing.T) {
	good := []string{"\x01\x03", "\x00\x07\x01y", "\x02\x01x"}
	x, e := Read(schemas(), good)
	if e != api.OK {
		t.Fatal(e)
	}
	pieces(t, x, good...)
	if x, e := Read(schemas(), nil); e != api.OK || x.Len() != 0 {
		t.Error(e)
	}
	var many []string
	for i := range uint64(1001) {
		many = append(many, "\x02\x02"+string([]byte{byte(i >> 8), byte(i)}))
	}
	if x, e := Read(schemas(), many[:1000]); e != api.OK || x.Len() != 1000 {
		t.Error(e)
	}
	for _, bad := range [][]string{{good[1], good[0]}, {good[0], good[0]}, {good[0], "\x00\x03\x01z"}, {""}, {good[0], "x"}, {"\x04\x01x"}, many} {
		if x, e := Read(schemas(), bad); x != nil || e != api.ErrForm {
			t.Error(len(bad), e)
		}
	}
}

func TestP17_5and6(t *testing.T) {
	r := rand.New(rand.NewSource(28))
	for range 200 {
		x, other := fresh(t), fresh(t)
		for range r.Intn(60) {
			stageOne(r, x)
		}
		before := x.Pieces()
		do(t, x.Put(0, l(n(1))), api.ErrForm)
		do(t, x.Drop(1, l(s(long))), api.ErrLong)
		do(t, x.Add("\x00"), api.ErrForm)
		do(t, x.Undo(0, l(n(1<<40))), api.ErrNone)
		pieces(t, x, before...)
		y, e := Read(schemas(), x.Pieces())
		if e != api.OK || !reflect.DeepEqual(y.Changes(), x.Changes()) {
			t.Fatal(e)
		}
		pieces(t, y, before...)
		for _, i := range r.Perm(len(before)) { // in another order, by other ways
			do(t, other.Add(before[i]), api.OK)
		}
		pieces(t, other, before...)
		if !slices.IsSortedFunc(x.Changes(), func(a, b api.Change) int { return a.Table - b.Table }) {
			t.Fatal(x.Changes())
		}
	}
}

func stageOne(r *rand.Rand, x *Set) {
	key, text := n(uint64(r.Intn(20)*300)), s(strings.Repeat("b", r.Intn(4)))
	switch r.Intn(6) {
	case 0:
		x.Put(1, l(text))
	case 1:
		x.Drop(1, l(text))
	case 2:
		x.Drop(0, l(key))
	case 3:
		x.Undo(0, l(key))
	default:
		x.Put(0, l(key, text))
	}
}
