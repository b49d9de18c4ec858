package subs

import (
	"math/rand"
	"slices"
	"testing"

	"quittance/anchor"
	"quittance/api"
	"quittance/civil"
	"quittance/prorate"
)

func day(y, m, d int) int {
	n, _ := civil.Day(y, m, d)
	return n
}

// plain is that of the examples.
func plain() api.Sub {
	return api.Sub{Id: 1, Customer: 1, Plan: 1, Cycle: api.Cycle{Start: day(2024, 1, 10), Anchor: 15, Every: 1}, Price: 3100}
}

func with(change func(*api.Sub)) api.Sub {
	s := plain()
	change(&s)
	return s
}

// billed is the example's, with three periods that are billed.
func billed() api.Sub { return with(func(s *api.Sub) { s.Billed = 3 }) }

func wrong() []api.Sub {
	return []api.Sub{
		{}, with(func(s *api.Sub) { s.Id = 0 }), with(func(s *api.Sub) { s.Customer = 0 }), with(func(s *api.Sub) { s.Plan = 0 }),
		with(func(s *api.Sub) { s.Cycle.Start = 0 }), with(func(s *api.Sub) { s.Cycle.Anchor = 32 }), with(func(s *api.Sub) { s.Cycle.Every = 121 }),
		with(func(s *api.Sub) { s.Price = -1 }), with(func(s *api.Sub) { s.Price = limit }), with(func(s *api.Sub) { s.Billed = -1 }), with(func(s *api.Sub) { s.Billed = 2001 }),
		with(func(s *api.Sub) { s.Since = s.Cycle.Start - 1 }), with(func(s *api.Sub) { s.Since = -1 }), with(func(s *api.Sub) { s.Since = api.MaxDay + 1 }),
		with(func(s *api.Sub) { s.Ends = s.Cycle.Start - 1 }), with(func(s *api.Sub) { s.Ends = -1 }), with(func(s *api.Sub) { s.Ends = api.MaxDay + 1 }),
		with(func(s *api.Sub) { s.Cycle.Start, s.Billed = api.MaxDay, 1 }),
	}
}

var noDays = []int{0, -1, api.MaxDay + 1, -1 << 63, 1<<63 - 1}

func TestP23_1(t *testing.T) {
	for _, s := range []api.Sub{plain(), billed(), with(func(s *api.Sub) { s.Billed, s.Price = 2000, 0 }), with(func(s *api.Sub) { s.Price, s.Since, s.Ends = limit-1, s.Cycle.Start, s.Cycle.Start }),
		with(func(s *api.Sub) { s.Since, s.Ends = api.MaxDay, api.MaxDay }), with(func(s *api.Sub) { s.Cycle.Start = api.MaxDay })} {
		if Check(s) != api.OK {
			t.Error(s)
		}
	}
	for _, s := range wrong() {
		state, e := State(s, day(2024, 5, 1))
		if Check(s) != api.ErrArg || state != 0 || e != api.ErrArg {
			t.Error(s, state, e)
		}
	}
	ending := with(func(s *api.Sub) { s.Ends = day(2024, 2, 1) })
	for _, x := range []struct {
		s    api.Sub
		day  int
		want uint8
	}{
		{plain(), day(2024, 1, 9), api.SubAhead}, {plain(), day(2024, 1, 10), api.SubOn}, {plain(), api.MaxDay, api.SubOn}, {ending, 1, api.SubAhead},
		{ending, day(2024, 1, 10), api.SubEnding}, {ending, day(2024, 1, 31), api.SubEnding}, {ending, day(2024, 2, 1), api.SubOver}, {ending, api.MaxDay, api.SubOver},
	} {
		if state, e := State(x.s, x.day); state != x.want || e != api.OK {
			t.Error(x, state, e)
		}
	}
	for _, on := range noDays {
		if state, e := State(plain(), on); state != 0 || e != api.ErrArg {
			t.Error(on, state, e)
		}
	}
}

// due checks what Due returns.
func due(t *testing.T, s api.Sub, today, most int, want ...api.Bill) {
	t.Helper()
	l, now, e := Due(s, today, most)
	s.Billed += len(want)
	if !slices.Equal(l, want) || now != s || e != api.OK {
		t.Errorf("%v %v %d, wanted %v", l, now, e, want)
	}
}

func bill(k, from, next int, amount int64) api.Bill {
	return api.Bill{K: k, From: from, Next: next, Amount: amount}
}

func TestP23_2(t *testing.T) {
	b0, b1 := bill(0, day(2024, 1, 10), day(2024, 1, 15), 500), bill(1, day(2024, 1, 15), day(2024, 2, 15), 3100)
	b2 := bill(2, day(2024, 2, 15), day(2024, 3, 15), 3100)
	due(t, plain(), day(2024, 2, 20), 10, b0, b1, b2)
	due(t, plain(), day(2024, 2, 20), 2, b0, b1)
	due(t, plain(), day(2024, 2, 15), 10, b0, b1, b2)
	due(t, plain(), day(2024, 2, 14), 10, b0, b1)
	due(t, plain(), day(2024, 1, 9), 10)
	due(t, billed(), day(2024, 3, 14), 10)
	due(t, billed(), day(2024, 3, 15), 1000, bill(3, day(2024, 3, 15), day(2024, 4, 15), 3100))
	ends := func(d int) api.Sub { return with(func(s *api.Sub) { s.Ends = d }) }
	due(t, ends(day(2024, 1, 20)), day(2024, 5, 1), 10, b0, bill(1, day(2024, 1, 15), day(2024, 1, 20), 500))
	due(t, ends(day(2024, 1, 15)), day(2024, 5, 1), 10, b0)
	due(t, ends(day(2024, 1, 10)), day(2024, 5, 1), 10)
	due(t, ends(day(2024, 1, 11)), day(2024, 5, 1), 10, bill(0, day(2024, 1, 10), day(2024, 1, 11), 100))
	last := with(func(s *api.Sub) { s.Billed = 1999 })
	due(t, last, api.MaxDay, 10, bill(1999, day(2190, 7, 15), day(2190, 8, 15), 3100))
	late := api.Sub{Id: 1, Customer: 1, Plan: 1, Cycle: api.Cycle{Start: day(9999, 11, 1), Anchor: 1, Every: 1}, Price: 30}
	due(t, late, api.MaxDay, 10, bill(0, day(9999, 11, 1), day(9999, 12, 1), 30))
	early := api.Sub{Id: 1, Customer: 1, Plan: 1, Cycle: api.Cycle{Start: 3, Anchor: 11, Every: 1}, Price: 1000}
	due(t, early, 5, 10, bill(0, 3, 11, 800)) // its full length begins with the calendar
	for _, s := range wrong() {
		if l, now, e := Due(s, 5, 5); len(l) != 0 || now != (api.Sub{}) || e != api.ErrArg {
			t.Error(s, e)
		}
	}
	for _, x := range [][2]int{{0, 5}, {api.MaxDay + 1, 5}, {5, 0}, {5, -1}, {5, 1001}} {
		if l, now, e := Due(plain(), x[0], x[1]); len(l) != 0 || now != (api.Sub{}) || e != api.ErrArg {
			t.Error(x, e)
		}
	}
}

func TestP23_3(t *testing.T) {
	want := with(func(s *api.Sub) { s.Billed, s.Plan, s.Price, s.Since = 3, 2, 6200, day(2024, 3, 1) })
	turn := api.Turn{From: day(2024, 3, 1), Next: day(2024, 3, 15), Credit: 1497, Charge: 2994}
	if now, x, e := Change(billed(), day(2024, 3, 1), api.Offer{Plan: 2, Price: 6200}); now != want || x != turn || e != api.OK {
		t.Error(now, x, e)
	}
	ending := with(func(s *api.Sub) { s.Billed, s.Ends = 3, day(2024, 3, 5) })
	turn = api.Turn{From: day(2024, 3, 1), Next: day(2024, 3, 5), Credit: 428, Charge: 0}
	if now, x, e := Change(ending, day(2024, 3, 1), api.Offer{Plan: 2}); now.Ends != ending.Ends || x != turn || e != api.OK {
		t.Error(now, x, e)
	}
	whole := api.Sub{Id: 1, Customer: 1, Plan: 1, Cycle: api.Cycle{Start: day(2024, 4, 1), Anchor: 1, Every: 1}, Price: 3000, Billed: 1}
	if _, x, e := Change(whole, day(2024, 4, 21), api.Offer{Plan: 2, Price: 9000}); x.Credit != 1000 || x.Charge != 3000 || e != api.OK {
		t.Error(x, e)
	}
	since := with(func(s *api.Sub) { s.Billed, s.Since = 3, day(2024, 3, 1) })
	for _, x := range []struct {
		s   api.Sub
		day int
		to  api.Offer
		e   api.Errno
	}{
		{billed(), day(2024, 2, 15), api.Offer{Plan: 1}, api.OK}, {billed(), day(2024, 3, 14), api.Offer{Plan: 1}, api.OK}, {since, day(2024, 3, 1), api.Offer{Plan: 1}, api.OK},
		{billed(), day(2024, 2, 14), api.Offer{Plan: 1}, api.ErrState}, {billed(), day(2024, 3, 15), api.Offer{Plan: 1}, api.ErrState}, {billed(), 1, api.Offer{Plan: 1}, api.ErrState},
		{plain(), day(2024, 1, 10), api.Offer{Plan: 1}, api.ErrState}, {since, day(2024, 2, 29), api.Offer{Plan: 1}, api.ErrState}, {ending, day(2024, 3, 5), api.Offer{Plan: 1}, api.ErrState},
		{billed(), api.MaxDay, api.Offer{Plan: 1}, api.ErrState}, {plain(), 0, api.Offer{Plan: 1}, api.ErrArg}, {plain(), api.MaxDay + 1, api.Offer{Plan: 1}, api.ErrArg},
		{plain(), 5, api.Offer{}, api.ErrArg}, {plain(), 5, api.Offer{Plan: 1, Price: -1}, api.ErrArg}, {plain(), 5, api.Offer{Plan: 1, Price: limit}, api.ErrArg}, {api.Sub{}, 5, api.Offer{Plan: 1}, api.ErrArg},
	} {
		now, turn, e := Change(x.s, x.day, x.to)
		if e != x.e || e != api.OK && (now != (api.Sub{}) || turn != (api.Turn{})) {
			t.Error(x, now, turn, e)
		}
	}
}

func TestP23_4(t *testing.T) {
	for _, x := range []struct {
		s      api.Sub
		day    int
		at     bool
		ends   int
		credit int64
		next   int
	}{
		{billed(), day(2024, 3, 1), false, day(2024, 3, 15), 0, 0}, {billed(), day(2024, 3, 1), true, day(2024, 3, 1), 1497, day(2024, 3, 15)},
		{billed(), day(2024, 2, 15), true, day(2024, 2, 15), 3100, day(2024, 3, 15)}, {billed(), day(2024, 3, 15), true, day(2024, 3, 15), 0, 0},
		{plain(), day(2024, 1, 10), true, day(2024, 1, 10), 0, 0}, {plain(), day(2025, 1, 10), false, day(2025, 1, 15), 0, 0},
		{with(func(s *api.Sub) { s.Billed, s.Since = 3, day(2024, 3, 5) }), day(2024, 3, 1), false, day(2024, 3, 15), 0, 0},
		{with(func(s *api.Sub) { s.Billed, s.Since = 3, day(2024, 3, 1) }), day(2024, 3, 1), true, day(2024, 3, 1), 1497, day(2024, 3, 15)},
	} {
		want := x.s
		want.Ends = x.ends
		turn := api.Turn{}
		if x.next != 0 {
			turn = api.Turn{From: x.day, Next: x.next, Credit: x.credit}
		}
		if now, got, e := Cancel(x.s, x.day, x.at); now != want || got != turn || e != api.OK {
			t.Error(x, now, got, e)
		}
	}
	ended := with(func(s *api.Sub) { s.Ends = api.MaxDay })
	since := with(func(s *api.Sub) { s.Billed, s.Since = 3, day(2024, 3, 1) })
	late := with(func(s *api.Sub) { s.Cycle.Start = day(9999, 12, 20) })
	for _, x := range []struct {
		s   api.Sub
		day int
		at  bool
		e   api.Errno
	}{
		{api.Sub{}, 5, true, api.ErrArg}, {plain(), 0, true, api.ErrArg}, {plain(), api.MaxDay + 1, false, api.ErrArg},
		{ended, day(2024, 3, 1), false, api.ErrState}, {ended, api.MaxDay, true, api.ErrState}, {plain(), day(2024, 1, 9), false, api.ErrState}, {since, day(2024, 2, 29), true, api.ErrState},
		{late, api.MaxDay, true, api.ErrNone}, {late, api.MaxDay, false, api.ErrNone}, {billed(), api.MaxDay, false, api.ErrNone},
		{billed(), day(2024, 2, 14), true, api.ErrState}, {billed(), day(2024, 1, 10), false, api.ErrState},
	} {
		if now, turn, e := Cancel(x.s, x.day, x.at); now != (api.Sub{}) || turn != (api.Turn{}) || e != x.e {
			t.Error(x, now, turn, e)
		}
	}
}

func someSub(r *rand.Rand) api.Sub {
	return api.Sub{Id: 1, Customer: 1, Plan: 1, Cycle: api.Cycle{Start: 1 + r.Intn(2000), Anchor: 1 + r.Intn(31), Every: 1 + r.Intn(4)}, Price: r.Int63n(limit) >> r.Intn(62)}
}

// TestP23_5 goes through a subscription's life, and counts what each stretch of
// days costs at the price that it had.
func TestP23_5and6(t *testing.T) {
	r := rand.New(rand.NewSource(39))
	for range 1500 {
		s := someSub(r)
		whole := s.Price
		l, s, _ := Due(s, s.Cycle.Start+r.Intn(500), 1+r.Intn(5))
		if len(l) == 0 {
			t.Fatal(s)
		}
		for _, b := range l {
			if b.K > 0 && b.Amount != whole || b.Amount < 0 || b.Amount > whole {
				t.Fatal(s, b)
			}
		}
		last := l[len(l)-1]
		s.Price >>= 4 // what is charged in all fits, however often the price changes
		from, price, want := last.From, s.Price, int64(0)
		charged := partOf(s, last, last.From, last.Next, price)
		for range r.Intn(4) {
			on := from + r.Intn(last.Next-from)
			now, x, e := Change(s, on, api.Offer{Plan: 2, Price: r.Int63n(limit) >> 4 >> r.Intn(50)})
			if e != api.OK || Check(now) != api.OK || x.Credit < 0 || x.Charge < 0 || x.From != on || x.Next != last.Next {
				t.Fatal(s, on, x, e)
			}
			want += partOf(s, last, from, on, price)
			charged += x.Charge - x.Credit
			s, from, price = now, on, now.Price
		}
		on := from + r.Intn(last.Next-from)
		now, x, e := Cancel(s, on, true)
		if e != api.OK || Check(now) != api.OK || x.Credit < 0 {
			t.Fatal(s, on, x, e)
		}
		want += partOf(s, last, from, on, price)
		if charged-x.Credit != want {
			t.Fatal(s, charged, x, want)
		}
		if l, _, e := Due(now, api.MaxDay, 10); len(l) != 0 || e != api.OK {
			t.Fatal(now, l)
		}
	}
}

// partOf computes the part of a price on some days of a bill's period anew.
func partOf(s api.Sub, b api.Bill, from, next int, price int64) int64 {
	bound, _ := anchor.Bound(s.Cycle, b.K+1)
	month, _ := civil.Of(bound)
	begin, e := anchor.At(month-s.Cycle.Every, s.Cycle.Anchor)
	if e != api.OK {
		begin = 1
	}
	n, _ := prorate.On(price, from-begin, next-begin, bound-begin)
	return n
}

func TestP23_6(t *testing.T) {
	r := rand.New(rand.NewSource(40))
	for range 500 {
		s := someSub(r)
		if r.Intn(2) == 0 {
			_, s, _ = Due(s, s.Cycle.Start+r.Intn(300), 1+r.Intn(9))
		}
		if r.Intn(2) == 0 {
			if now, _, e := Cancel(s, s.Cycle.Start+r.Intn(300), r.Intn(2) == 0); e == api.OK {
				s = now
			}
		}
		today, most := s.Cycle.Start+r.Intn(800), 1+r.Intn(10)
		l, now, e := Due(s, today, most)
		if e != api.OK || Check(now) != api.OK || len(l) > most {
			t.Fatal(s, now, e)
		}
		again, same, e := Due(now, today, most)
		if e != api.OK || len(l) < most && (len(again) != 0 || same != now) {
			t.Fatal(s, again)
		}
	}
}
