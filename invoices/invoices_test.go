package invoices

import (
	"math/rand"
	"testing"

	"quittance/api"
)

// plain is that of the examples.
func plain() api.Invoice {
	return api.Invoice{Id: 1, Customer: 1, Day: 10, Due: 40, From: 10, Next: 41, Amount: 100}
}

func with(change func(*api.Invoice)) api.Invoice {
	x := plain()
	change(&x)
	return x
}

// parts returns an invoice of 100 of which so much was credited, paid and lost.
func parts(credited, paid, lost int64) api.Invoice {
	return with(func(x *api.Invoice) { x.Credited, x.Paid, x.Lost = credited, paid, lost })
}

func wrong() []api.Invoice {
	return []api.Invoice{
		{}, with(func(x *api.Invoice) { x.Id = 0 }), with(func(x *api.Invoice) { x.Customer = 0 }), with(func(x *api.Invoice) { x.Day = 0 }), with(func(x *api.Invoice) { x.Due = 9 }),
		with(func(x *api.Invoice) { x.Due = api.MaxDay + 1 }), with(func(x *api.Invoice) { x.From = 0 }), with(func(x *api.Invoice) { x.From = 41 }), with(func(x *api.Invoice) { x.Next = api.MaxDay + 2 }),
		with(func(x *api.Invoice) { x.From, x.Next = api.MaxDay+1, api.MaxDay+2 }), with(func(x *api.Invoice) { x.Amount = -1 }), with(func(x *api.Invoice) { x.Amount = limit }),
		parts(-1, 0, 0), parts(0, -1, 0), parts(0, 0, -1), parts(101, 0, 0), parts(50, 50, 1), parts(100, -1, 1),
		with(func(x *api.Invoice) { x.Amount, x.Credited, x.Paid, x.Lost = 0, 1<<63-1, 1<<63-1, 2 }), parts(-1<<63, -1<<63, 0), parts(1<<63-1, 1<<63-1, 1<<63-1),
	}
}

func TestP24_1(t *testing.T) {
	for _, x := range []struct {
		x    api.Invoice
		open int64
	}{
		{plain(), 100}, {parts(20, 30, 40), 10}, {parts(20, 30, 50), 0}, {with(func(x *api.Invoice) { x.Amount, x.Contract = 0, 1<<64-1 }), 0},
		{with(func(x *api.Invoice) {
			x.Amount, x.Day, x.Due, x.From, x.Next = limit-1, api.MaxDay, api.MaxDay, api.MaxDay, api.MaxDay+1
		}), limit - 1},
	} {
		if Check(x.x) != api.OK || Open(x.x) != x.open {
			t.Error(x, Check(x.x), Open(x.x))
		}
	}
	for _, x := range wrong() {
		if Check(x) != api.ErrArg || Open(x) != 0 {
			t.Error(x, Check(x), Open(x))
		}
	}
}

func TestP24_2(t *testing.T) {
	for _, x := range []struct {
		x, now  api.Invoice
		n, over int64
		e       api.Errno
	}{
		{plain(), parts(50, 0, 0), 50, 0, api.OK}, {parts(0, 60, 0), parts(50, 50, 0), 50, 10, api.OK}, {parts(0, 60, 0), parts(40, 60, 0), 40, 0, api.OK},
		{parts(0, 60, 10), parts(90, 0, 10), 90, 60, api.OK}, {parts(0, 60, 10), api.Invoice{}, 91, 0, api.ErrState}, {parts(100, 0, 0), api.Invoice{}, 1, 0, api.ErrState},
		{plain(), api.Invoice{}, 0, 0, api.ErrArg}, {plain(), api.Invoice{}, -1 << 63, 0, api.ErrArg}, {plain(), api.Invoice{}, 1<<63 - 1, 0, api.ErrState}, {api.Invoice{}, api.Invoice{}, 5, 0, api.ErrArg},
	} {
		if now, over, e := Credit(x.x, x.n); now != x.now || over != x.over || e != x.e {
			t.Error(x, now, over, e)
		}
	}
}

func TestP24_3(t *testing.T) {
	for _, x := range []struct {
		do     func(api.Invoice, int64) (api.Invoice, api.Errno)
		x, now api.Invoice
		n      int64
		e      api.Errno
	}{
		{Pay, plain(), parts(0, 60, 0), 60, api.OK}, {Pay, parts(0, 60, 0), parts(0, 100, 0), 40, api.OK}, {Pay, parts(0, 60, 0), api.Invoice{}, 41, api.ErrState}, {Pay, plain(), api.Invoice{}, 0, api.ErrArg},
		{Pay, plain(), api.Invoice{}, -1, api.ErrArg}, {Pay, api.Invoice{}, api.Invoice{}, 1, api.ErrArg}, {Pay, parts(50, 0, 50), api.Invoice{}, 1, api.ErrState},
		{Unpay, parts(10, 60, 0), parts(10, 20, 0), 40, api.OK}, {Unpay, parts(0, 60, 0), parts(0, 0, 0), 60, api.OK}, {Unpay, parts(0, 60, 0), api.Invoice{}, 61, api.ErrState},
		{Unpay, parts(0, 60, 0), api.Invoice{}, 0, api.ErrArg}, {Unpay, parts(0, 0, 1000), api.Invoice{}, 1, api.ErrArg},
	} {
		if now, e := x.do(x.x, x.n); now != x.now || e != x.e {
			t.Error(x.x, x.n, now, e)
		}
	}
	for _, x := range []struct {
		x, now api.Invoice
		n      int64
		e      api.Errno
	}{{parts(0, 60, 0), parts(0, 60, 40), 40, api.OK}, {parts(0, 60, 10), parts(0, 60, 40), 30, api.OK}, {parts(0, 99, 0), parts(0, 99, 1), 1, api.OK}, {parts(0, 60, 40), api.Invoice{}, 0, api.ErrState}, {api.Invoice{}, api.Invoice{}, 0, api.ErrArg}} {
		if now, n, e := Lose(x.x); now != x.now || n != x.n || e != x.e {
			t.Error(x, now, n, e)
		}
	}
}

func TestP24_4(t *testing.T) {
	for _, x := range [][3]int{{1, 0, 0}, {40, 0, 0}, {41, 1, 1}, {70, 30, 1}, {71, 31, 2}, {100, 60, 2}, {101, 61, 3}, {130, 90, 3}, {131, 91, 4}, {api.MaxDay, api.MaxDay - 40, 4}} {
		if days, age, e := Late(plain(), x[0]); days != x[1] || age != x[2] || e != api.OK {
			t.Error(x, days, age, e)
		}
	}
	bad := append(wrong(), plain())
	for i, x := range bad {
		on := 50
		if i == len(bad)-1 {
			on = api.MaxDay + 1
		}
		days, age, e := Late(x, on)
		sums, e2 := Ages([]api.Invoice{plain(), x}, on)
		if days != 0 || age != 0 || e != api.ErrArg || sums != [5]int64{} || e2 != api.ErrArg {
			t.Error(x, days, age, e, e2)
		}
	}
	if _, e := Ages(nil, 0); e != api.ErrArg {
		t.Error(e)
	}
	if sums, e := Ages(nil, 1); sums != [5]int64{} || e != api.OK {
		t.Error(sums, e)
	}
	if sums, e := Ages([]api.Invoice{plain(), parts(0, 60, 0)}, 131); sums != [5]int64{0, 0, 0, 0, 140} || e != api.OK {
		t.Error(sums, e)
	}
	due := func(d int) api.Invoice { return with(func(x *api.Invoice) { x.Due = d; x.Credited = 1 }) }
	if sums, e := Ages([]api.Invoice{due(200), due(199), due(150), due(120), due(110), due(20)}, 200); sums != [5]int64{99, 99, 99, 198, 99} || e != api.OK {
		t.Error(sums, e)
	}
	great := with(func(x *api.Invoice) { x.Amount = limit - 1 })
	two := with(func(x *api.Invoice) { x.Amount = 1 })
	if sums, e := Ages([]api.Invoice{great, great, two}, 50); sums != [5]int64{0, 1<<63 - 1} || e != api.OK {
		t.Error(sums, e)
	}
	if sums, e := Ages([]api.Invoice{great, great, two, two}, 50); sums != [5]int64{} || e != api.ErrOver {
		t.Error(sums, e)
	}
	if sums, e := Ages([]api.Invoice{great, great, two, two, {}}, 50); sums != [5]int64{} || e != api.ErrArg {
		t.Error(sums, e)
	}
}

func TestP24_5(t *testing.T) {
	r := rand.New(rand.NewSource(41))
	for range 300 {
		x := with(func(x *api.Invoice) { x.Amount = r.Int63n(200) })
		for range 30 {
			n := r.Int63n(60)
			before := x
			var now api.Invoice
			var e api.Errno
			switch r.Intn(4) {
			case 0:
				now, e = Pay(x, n)
			case 1:
				now, e = Unpay(x, n)
			case 2:
				now, _, e = Credit(x, n)
			case 3:
				if r.Intn(5) == 0 {
					now, _, e = Lose(x)
				} else {
					e = api.ErrState
				}
			}
			if e != api.OK {
				continue
			}
			x = now
			if Check(x) != api.OK || Open(x)+x.Credited+x.Paid+x.Lost != x.Amount {
				t.Fatal(before, x)
			}
			now.Credited, now.Paid, now.Lost = before.Credited, before.Paid, before.Lost
			if now != before {
				t.Fatal(before, x)
			}
		}
	}
}

func TestP24_6(t *testing.T) {
	r := rand.New(rand.NewSource(42))
	for range 300 {
		var l []api.Invoice
		open := int64(0)
		for range r.Intn(20) {
			x := with(func(x *api.Invoice) {
				x.Due, x.Amount = 10+r.Intn(150), r.Int63n(1000)
				x.Paid = r.Int63n(x.Amount + 1)
			})
			l = append(l, x)
			open += Open(x)
		}
		on := 1 + r.Intn(200)
		sums, _ := Ages(l, on)
		later, _ := Ages(l, on+r.Intn(50))
		a, b := int64(0), int64(0)
		for age := 4; age >= 0; age-- {
			a, b = a+sums[age], b+later[age]
			if b < a {
				t.Fatal(sums, later)
			}
		}
		if a != open || b != open {
			t.Fatal(sums, later, open)
		}
	}
}
