package revrec

import (
	"math/rand"
	"reflect"
	"slices"
	"testing"

	"quittance/api"
	"quittance/civil"
	"quittance/journal"
	"quittance/sched"
)

func month(y, m int) int {
	n, _ := civil.Month(y, m)
	return n
}

func slice(month int, amount int64) api.Slice { return api.Slice{Month: month, Amount: amount} }

// of returns a schedule by milestones, whose months are in any order.
func of(invoice uint64, l ...api.Slice) api.Schedule {
	return api.Schedule{Invoice: invoice, Contract: 3, Version: 1, Kind: api.SkMilestone, Slices: l}
}

// plain and its mark are those of the examples.
func plain() api.Schedule {
	m := month(2024, 1)
	return of(1, slice(m, 176), slice(m+1, 319), slice(m+2, 340), slice(m+3, 165))
}

func mark(month int) api.Mark { return api.Mark{Contract: 3, Customer: 7, Month: month} }

func list(l ...api.Schedule) []api.Schedule { return l }

const limit = 1 << 62

func TestP29_1(t *testing.T) {
	other := plain()
	other.Contract = 4
	for _, x := range []struct {
		m  api.Mark
		l  []api.Schedule
		no api.Errno
	}{
		{mark(0), nil, api.OK}, {mark(api.MaxMonth), list(plain(), of(2, slice(0, 0)), of(9, slice(5, 5))), api.OK},
		{api.Mark{Customer: 7}, nil, api.ErrArg}, {api.Mark{Contract: 3}, nil, api.ErrArg}, {mark(-1), nil, api.ErrArg}, {mark(api.MaxMonth + 1), nil, api.ErrArg},
		{mark(0), list(plain(), plain()), api.ErrArg}, {mark(0), list(of(2, slice(0, 0)), plain()), api.ErrArg}, {mark(0), list(other), api.ErrArg}, {mark(0), list(plain(), api.Schedule{}), api.ErrArg},
	} {
		if no := Check(x.m, x.l); no != x.no {
			t.Error(x, no)
		}
	}
	m := month(2024, 1)
	two := of(5, slice(m+1, 1000), slice(0, 7), api.Slice{Month: m, Amount: 50, Done: true})
	for _, x := range []struct {
		l     []api.Schedule
		month int
		due   int64
		left  int64
	}{{nil, 1, 0, 0}, {list(plain()), m - 1, 0, 1000}, {list(plain()), m, 176, 1000}, {list(plain(), two), m + 1, 1495, 2007}, {list(two, plain(), other), api.MaxMonth, 3000, 3007}} {
		due, e := Due(x.l, x.month)
		left, e2 := Left(x.l)
		if due != x.due || e != api.OK || left != x.left || e2 != api.OK {
			t.Error(x, due, e, left, e2)
		}
	}
	for _, month := range []int{0, -1, api.MaxMonth + 1} {
		if n, e := Due(list(plain()), month); n != 0 || e != api.ErrArg {
			t.Error(month, n, e)
		}
	}
	great, one := of(1, slice(5, limit-1)), of(2, slice(5, 1))
	for _, x := range []struct {
		l    []api.Schedule
		want int64
		e    api.Errno
	}{{list(great, great, one), 1<<63 - 1, api.OK}, {list(great, great, one, one), 0, api.ErrOver}, {list(great, great, one, one, api.Schedule{}), 0, api.ErrArg}} {
		due, e := Due(x.l, 5)
		left, e2 := Left(x.l)
		if due != x.want || e != x.e || left != x.want || e2 != x.e {
			t.Error(x, due, e, left, e2)
		}
	}
}

func TestP29_2(t *testing.T) {
	m := month(2024, 1)
	_, last, _ := civil.Days(m + 1)
	line := func(account int, n int64) api.Line {
		return api.Line{Account: account, Customer: 7, Contract: 3, Amount: n}
	}
	r, e := Recognize(mark(0), list(plain()), m+1)
	taken, _, _ := sched.Take(plain(), m+1)
	want := api.Run{
		Mark: mark(m + 1), Schedules: list(taken), Releases: []api.Release{{Contract: 3, Invoice: 1, Version: 1, Month: m + 1, Amount: 495}},
		Entry: api.Entry{Day: last, Kind: api.KindRevenue, Source: 3, Lines: []api.Line{line(2100, 495), line(3100, -495)}},
	}
	if !reflect.DeepEqual(r, want) || e != api.OK {
		t.Error(r, e)
	}
	for _, month := range []int{m + 1, m, 1} {
		if r, e := Recognize(r.Mark, r.Schedules, month); !reflect.DeepEqual(r, api.Run{}) || e != api.ErrDone {
			t.Error(r, e)
		}
	}
	r, e = Recognize(r.Mark, r.Schedules, m+4)
	if n, _ := Left(r.Schedules); len(r.Releases) != 1 || r.Releases[0].Amount != 505 || n != 0 || e != api.OK {
		t.Error(r, e)
	}
	r, e = Recognize(r.Mark, r.Schedules, m+5)
	if len(r.Releases) != 0 || len(r.Entry.Lines) != 0 || r.Entry.Source != 3 || r.Mark != mark(m+5) || len(r.Schedules) != 1 || e != api.OK {
		t.Error(r, e)
	}
	some := list(of(1, slice(0, 5)), of(2, slice(m, 5)), of(4, slice(m, 0)), of(7, slice(m, 6)))
	r, e = Recognize(mark(0), some, m)
	if l := r.Releases; len(l) != 2 || l[0].Invoice != 2 || l[1].Invoice != 7 || r.Entry.Lines[0].Amount != 11 || len(r.Schedules) != 4 || e != api.OK {
		t.Error(r, e)
	}
}

func TestP29_2Refused(t *testing.T) {
	great, one := of(1, slice(5, limit-1)), of(2, slice(5, 1))
	if r, e := Recognize(mark(0), list(great, one), 5); r.Entry.Lines[0].Amount != limit || journal.Check(r.Entry) != api.OK || e != api.OK {
		t.Error(r, e)
	}
	for _, x := range []struct {
		m     api.Mark
		l     []api.Schedule
		month int
		e     api.Errno
	}{
		{mark(0), list(great, of(2, slice(5, 2))), 5, api.ErrOver}, {mark(0), list(great, of(2, slice(5, limit-1)), of(3, slice(5, limit-1))), 5, api.ErrOver}, {mark(5), list(great, of(2, slice(5, 2))), 5, api.ErrDone},
		{api.Mark{}, nil, 5, api.ErrArg}, {mark(9), list(one, great), 5, api.ErrArg}, {mark(9), nil, 0, api.ErrArg}, {mark(9), nil, -5, api.ErrArg}, {mark(9), nil, api.MaxMonth + 1, api.ErrArg}, {mark(9), list(api.Schedule{}), 5, api.ErrArg},
	} {
		if r, e := Recognize(x.m, x.l, x.month); !reflect.DeepEqual(r, api.Run{}) || e != x.e {
			t.Error(x, r, e)
		}
	}
}

// some returns schedules of the contract 3, straight ones and others.
func some(r *rand.Rand) []api.Schedule {
	var l []api.Schedule
	for i := range r.Intn(5) {
		s := of(uint64(i+1), slice(r.Intn(9), r.Int63n(50)), slice(r.Intn(9), r.Int63n(50)))
		if r.Intn(2) == 0 {
			s.Kind = api.SkStraight
			s.Slices, _ = sched.Straight(r.Int63n(1000), 1+r.Intn(100), 101+r.Intn(200))
		}
		l = append(l, s)
	}
	return l
}

func TestP29_3and4(t *testing.T) {
	r := rand.New(rand.NewSource(50))
	for range 300 {
		m, l := mark(0), some(r)
		seen := map[[2]uint64]int{}
		for range 12 {
			month := 1 + r.Intn(12)
			left, _ := Left(l)
			run, e := Recognize(m, l, month)
			if (e == api.ErrDone) != (month <= m.Month) || e != api.OK && e != api.ErrDone {
				t.Fatal(m, month, e)
			}
			if e != api.OK {
				continue
			}
			sum := int64(0)
			for _, x := range run.Releases {
				seen[[2]uint64{x.Invoice, uint64(x.Month)}]++
				if seen[[2]uint64{x.Invoice, uint64(x.Month)}] > 1 || x.Amount < 1 {
					t.Fatal(x)
				}
				sum += x.Amount
			}
			m, l = run.Mark, run.Schedules
			due, _ := Due(l, month)
			now, _ := Left(l)
			if due != 0 || now+sum != left || m.Month != month {
				t.Fatal(due, now, sum, left)
			}
			for _, s := range l {
				if s.Kind == api.SkStraight && s.Slices[len(s.Slices)-1].Month <= month && sched.Left(s) != 0 {
					t.Fatal(s)
				}
			}
		}
	}
}

func TestP29_5(t *testing.T) {
	r := rand.New(rand.NewSource(51))
	for range 300 {
		l := some(r)
		first, second := 1+r.Intn(6), 7+r.Intn(6)
		a, _ := Recognize(mark(0), l, first)
		b, e := Recognize(a.Mark, a.Schedules, second)
		all, e2 := Recognize(mark(0), l, second)
		if e != api.OK || e2 != api.OK || !reflect.DeepEqual(b.Schedules, all.Schedules) || b.Mark != all.Mark {
			t.Fatal(b, all)
		}
		sums := map[uint64]int64{}
		for _, x := range slices.Concat(a.Releases, b.Releases) {
			sums[x.Invoice] += x.Amount
		}
		for _, x := range all.Releases {
			sums[x.Invoice] -= x.Amount
		}
		for invoice, n := range sums {
			if n != 0 {
				t.Fatal(invoice, n)
			}
		}
		for _, y := range []api.Entry{a.Entry, b.Entry, all.Entry} {
			if len(y.Lines) > 0 && journal.Check(y) != api.OK {
				t.Fatal(y)
			}
		}
	}
}
