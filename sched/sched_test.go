package sched

import (
	"math/rand"
	"reflect"
	"slices"
	"testing"

	"quittance/api"
	"quittance/civil"
)

func day(y, m, d int) int {
	n, _ := civil.Day(y, m, d)
	return n
}

func month(y, m int) int {
	n, _ := civil.Month(y, m)
	return n
}

func slice(month int, amount int64) api.Slice { return api.Slice{Month: month, Amount: amount} }

func done(month int, amount int64) api.Slice {
	return api.Slice{Month: month, Amount: amount, Done: true}
}

func of(kind uint8, l ...api.Slice) api.Schedule {
	return api.Schedule{Invoice: 1, Contract: 3, Version: 1, Kind: kind, Slices: l}
}

func straight(l ...api.Slice) api.Schedule  { return of(api.SkStraight, l...) }
func milestone(l ...api.Slice) api.Schedule { return of(api.SkMilestone, l...) }

func with(s api.Schedule, change func(*api.Schedule)) api.Schedule {
	change(&s)
	return s
}

// plain is that of the examples: four months from January 2024 on.
func plain() api.Schedule {
	m := month(2024, 1)
	return straight(slice(m, 176), slice(m+1, 319), slice(m+2, 340), slice(m+3, 165))
}

func wrong() []api.Schedule {
	one := straight(slice(1, 5))
	return []api.Schedule{
		{}, straight(), with(one, func(s *api.Schedule) { s.Invoice = 0 }), with(one, func(s *api.Schedule) { s.Version = 0 }), with(one, func(s *api.Schedule) { s.Version = api.MaxVersion + 1 }),
		with(one, func(s *api.Schedule) { s.Kind = 0 }), with(one, func(s *api.Schedule) { s.Kind = 3 }), straight(slice(0, 5)), straight(slice(-1, 5)), straight(slice(api.MaxMonth+1, 5)), straight(slice(2, 5), slice(2, 5)),
		straight(slice(2, 5), slice(1, 5)), straight(slice(1, -1)), straight(slice(1, limit)), straight(slice(1, limit-1), slice(2, 1)), straight(slice(1, 1<<63-1), slice(2, 1<<63-1)),
		milestone(done(0, 5)), milestone(slice(-1, 5)), milestone(slice(api.MaxMonth+1, 5)), milestone(slices.Repeat([]api.Slice{slice(0, 1)}, 4097)...),
	}
}

func TestP28_1(t *testing.T) {
	for _, s := range []api.Schedule{plain(), straight(done(1, 0), slice(api.MaxMonth, limit-1)), milestone(slice(0, 5), done(7, 5), slice(3, 5), slice(3, 0)), milestone(slices.Repeat([]api.Slice{slice(0, 1)}, 4096)...),
		with(plain(), func(s *api.Schedule) { s.Contract, s.Version = 0, api.MaxVersion })} {
		if Check(s) != api.OK {
			t.Error(s)
		}
	}
	for _, s := range wrong() {
		a, e1 := Reach(s, 0, 5)
		b, n, e2 := Take(s, 5)
		c, e3 := Cut(s, 1)
		l, e4 := Waterfall([]api.Schedule{plain(), s})
		none := reflect.DeepEqual([]api.Schedule{a, b, c}, make([]api.Schedule, 3))
		if Check(s) != api.ErrArg || Left(s) != 0 || !none || n != 0 || len(l) != 0 || e1 != api.ErrArg || e2 != api.ErrArg || e3 != api.ErrArg || e4 != api.ErrArg {
			t.Error(s, e1, e2, e3, e4)
		}
	}
	if l, e := Straight(1000, day(2024, 1, 16), day(2024, 4, 16)); !slices.Equal(l, plain().Slices) || e != api.OK {
		t.Error(l, e)
	}
	if l, e := Straight(0, 5, 6); !slices.Equal(l, []api.Slice{slice(1, 0)}) || e != api.OK {
		t.Error(l, e)
	}
	if l, e := Straight(7, 1, day(342, 5, 1)); len(l) != 4096 || e != api.OK {
		t.Error(len(l), e)
	}
	for _, x := range []struct {
		total      int64
		from, next int
	}{{-1, 5, 6}, {limit, 5, 6}, {5, 5, 5}, {5, 0, 5}, {5, 5, api.MaxDay + 2}, {7, 1, day(342, 5, 2)}} {
		if l, e := Straight(x.total, x.from, x.next); len(l) != 0 || e != api.ErrArg {
			t.Error(x, e)
		}
	}
	if l, e := Milestones(100, []int64{1, 2}); !slices.Equal(l, []api.Slice{slice(0, 33), slice(0, 67)}) || e != api.OK {
		t.Error(l, e)
	}
	for _, weights := range [][]int64{nil, {0}, {-1, 2}} {
		if l, e := Milestones(100, weights); len(l) != 0 || e != api.ErrArg {
			t.Error(weights, e)
		}
	}
	if _, e := Milestones(-1, []int64{1}); e != api.ErrArg {
		t.Error(e)
	}
}

func TestP28_2(t *testing.T) {
	if n := Left(plain()); n != 1000 {
		t.Error(n)
	}
	if n := Left(milestone(slice(0, 5), done(7, 50), slice(3, 500))); n != 505 {
		t.Error(n)
	}
	s := milestone(slice(0, 33), slice(0, 67), slice(5, 1), done(6, 1))
	now, e := Reach(s, 1, 9)
	if !reflect.DeepEqual(now, milestone(slice(0, 33), slice(9, 67), slice(5, 1), done(6, 1))) || s.Slices[1].Month != 0 || e != api.OK {
		t.Error(now, e)
	}
	for _, x := range []struct {
		s         api.Schedule
		at, month int
		e         api.Errno
	}{
		{s, -1, 5, api.ErrArg}, {s, 4, 5, api.ErrArg}, {s, 1 << 62, 5, api.ErrArg}, {s, 2, 0, api.ErrArg}, {s, 0, -1, api.ErrArg}, {s, 0, api.MaxMonth + 1, api.ErrArg},
		{s, 2, 5, api.ErrState}, {s, 3, 5, api.ErrState}, {plain(), 0, 5, api.ErrState}, {plain(), 9, 5, api.ErrArg},
	} {
		if now, e := Reach(x.s, x.at, x.month); !reflect.DeepEqual(now, api.Schedule{}) || e != x.e {
			t.Error(x, now, e)
		}
	}
}

func TestP28_3(t *testing.T) {
	m := month(2024, 1)
	s := plain()
	now, n, e := Take(s, m+1)
	want := straight(done(m, 176), done(m+1, 319), slice(m+2, 340), slice(m+3, 165))
	if !reflect.DeepEqual(now, want) || n != 495 || e != api.OK || Left(now) != 505 || s.Slices[0].Done {
		t.Error(now, n, e)
	}
	if _, n, e := Take(now, m+9); n != 505 || e != api.OK {
		t.Error(n, e)
	}
	miles := milestone(slice(0, 33), slice(9, 60), slice(7, 7), done(3, 100), slice(10, 5))
	now, n, e = Take(miles, 9)
	if !reflect.DeepEqual(now, milestone(slice(0, 33), done(9, 60), done(7, 7), done(3, 100), slice(10, 5))) || n != 67 || e != api.OK {
		t.Error(now, n, e)
	}
	for _, month := range []int{0, -1, api.MaxMonth + 1} {
		if now, n, e := Take(s, month); !reflect.DeepEqual(now, api.Schedule{}) || n != 0 || e != api.ErrArg {
			t.Error(month, e)
		}
	}
}

func TestP28_4(t *testing.T) {
	m := month(2024, 1)
	s := straight(done(m, 176), done(m+1, 319), slice(m+2, 340), slice(m+3, 165))
	two := func(l ...api.Slice) api.Schedule {
		return with(straight(l...), func(s *api.Schedule) { s.Version = 2 })
	}
	for _, x := range []struct {
		n    int64
		want api.Schedule
		e    api.Errno
	}{
		{200, two(done(m, 176), done(m+1, 319), slice(m+2, 305), slice(m+3, 0)), api.OK}, {1, two(done(m, 176), done(m+1, 319), slice(m+2, 340), slice(m+3, 164)), api.OK},
		{505, two(done(m, 176), done(m+1, 319), slice(m+2, 0), slice(m+3, 0)), api.OK}, {506, api.Schedule{}, api.ErrState}, {0, api.Schedule{}, api.ErrArg}, {-1, api.Schedule{}, api.ErrArg},
	} {
		if now, e := Cut(s, x.n); !reflect.DeepEqual(now, x.want) || e != x.e {
			t.Error(x, now, e)
		}
	}
	if s.Slices[3].Amount != 165 {
		t.Error("the argument is changed")
	}
	miles := with(milestone(slice(9, 50), done(8, 100), slice(0, 10)), func(s *api.Schedule) { s.Version = api.MaxVersion - 1 })
	now, e := Cut(miles, 15)
	if want := with(milestone(slice(9, 45), done(8, 100), slice(0, 0)), func(s *api.Schedule) { s.Version = api.MaxVersion }); !reflect.DeepEqual(now, want) || e != api.OK {
		t.Error(now, e)
	}
	if _, e := Cut(now, 1); e != api.ErrState {
		t.Error(e)
	}
	if _, e := Cut(now, 0); e != api.ErrArg {
		t.Error(e)
	}
}

func TestP28_5(t *testing.T) {
	l, e := Waterfall([]api.Schedule{straight(slice(5, 10), done(6, 1), slice(7, 3)), milestone(slice(9, 4), slice(0, 8), slice(5, 2), slice(6, 0), slice(0, 1))})
	if !slices.Equal(l, []api.Slice{slice(0, 9), slice(5, 12), slice(7, 3), slice(9, 4)}) || e != api.OK {
		t.Error(l, e)
	}
	if l, e := Waterfall(nil); len(l) != 0 || e != api.OK {
		t.Error(l, e)
	}
	great, one := straight(slice(5, limit-1)), straight(slice(5, 1))
	if l, e := Waterfall([]api.Schedule{great, great, one}); !slices.Equal(l, []api.Slice{slice(5, 1<<63-1)}) || e != api.OK {
		t.Error(l, e)
	}
	if l, e := Waterfall([]api.Schedule{great, great, one, one}); len(l) != 0 || e != api.ErrOver {
		t.Error(l, e)
	}
	if l, e := Waterfall([]api.Schedule{great, great, one, one, {}}); len(l) != 0 || e != api.ErrArg {
		t.Error(l, e)
	}
}

// some returns a schedule of either kind.
func some(r *rand.Rand) api.Schedule {
	if r.Intn(2) == 0 {
		l, _ := Straight(r.Int63n(1000), 1+r.Intn(200), 201+r.Intn(200))
		return straight(l...)
	}
	l, _ := Milestones(r.Int63n(1000), []int64{1, r.Int63n(9), r.Int63n(9)})
	return milestone(l...)
}

func TestP28_6(t *testing.T) {
	r := rand.New(rand.NewSource(48))
	for range 500 {
		s := some(r)
		for range 10 {
			m, n := 1+r.Intn(14), r.Int63n(300)
			before := Left(s)
			switch r.Intn(3) {
			case 0:
				if now, e := Reach(s, r.Intn(3), m); e == api.OK {
					s = now
				}
				n = 0
			case 1:
				now, taken, e := Take(s, m)
				_, again, e2 := Take(now, 1+r.Intn(m))
				if e != api.OK || e2 != api.OK || again != 0 {
					t.Fatal(s, again)
				}
				s, n = now, taken
			default:
				now, e := Cut(s, n)
				if e != api.OK {
					n = 0
				} else {
					s = now
				}
			}
			if Check(s) != api.OK || Left(s)+n != before {
				t.Fatal(s, before, n)
			}
		}
	}
}

func TestP28_7(t *testing.T) {
	r := rand.New(rand.NewSource(49))
	for range 300 {
		var l []api.Schedule
		left := int64(0)
		for range r.Intn(6) {
			s := some(r)
			if s.Kind == api.SkStraight {
				last := s.Slices[len(s.Slices)-1].Month
				if now, _, _ := Take(s, last); Left(now) != 0 {
					t.Fatal(now)
				}
			}
			s, _, _ = Take(s, 1+r.Intn(14))
			l = append(l, s)
			left += Left(s)
		}
		fall, e := Waterfall(l)
		for _, x := range fall {
			left -= x.Amount
		}
		if left != 0 || e != api.OK || !slices.IsSortedFunc(fall, func(a, b api.Slice) int { return a.Month - b.Month }) {
			t.Fatal(l, fall)
		}
	}
}
