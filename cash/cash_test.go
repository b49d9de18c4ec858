package cash

import (
	"math/rand"
	"reflect"
	"slices"
	"testing"

	"quittance/api"
	"quittance/invoices"
	"quittance/journal"
)

func plain() api.Payment { return api.Payment{Id: 1, Customer: 7, Day: 50, Amount: 100} }

// parts returns the payment of which so much was applied and refunded.
func parts(applied, refunded int64) api.Payment {
	p := plain()
	p.Applied, p.Refunded = applied, refunded
	return p
}

func invoice(id uint64, due int, amount int64) api.Invoice {
	return api.Invoice{Id: id, Customer: 7, Contract: 3, Day: 10, Due: due, From: 10, Next: 41, Amount: amount}
}

func with(x api.Invoice, change func(*api.Invoice)) api.Invoice {
	change(&x)
	return x
}

func paid(x api.Invoice, n int64) api.Invoice {
	x.Paid = n
	return x
}

func of(account int, contract uint64, amount int64) api.Line {
	return api.Line{Account: account, Customer: 7, Contract: contract, Amount: amount}
}

func entry(day int, kind uint8, l ...api.Line) api.Entry {
	return api.Entry{Day: day, Kind: kind, Source: 1, Lines: l}
}

func wrong() []api.Payment {
	l := []api.Payment{{}, parts(-1, 0), parts(0, -1), parts(101, 0), parts(0, 101), parts(60, 41), parts(1<<63-1, 1<<63-1), parts(-1<<63, 5)}
	for _, change := range []func(*api.Payment){
		func(p *api.Payment) { p.Id = 0 }, func(p *api.Payment) { p.Customer = 0 }, func(p *api.Payment) { p.Day = 0 }, func(p *api.Payment) { p.Day = api.MaxDay + 1 },
		func(p *api.Payment) { p.Amount = 0 }, func(p *api.Payment) { p.Amount = -1 }, func(p *api.Payment) { p.Amount = limit },
	} {
		p := plain()
		change(&p)
		l = append(l, p)
	}
	return l
}

func TestP26_1(t *testing.T) {
	great := api.Payment{Id: 1<<64 - 1, Customer: 1<<64 - 1, Day: api.MaxDay, Amount: limit - 1, Applied: 5}
	for _, x := range []struct {
		p    api.Payment
		left int64
	}{{plain(), 100}, {api.Payment{Id: 1, Customer: 1, Day: 1, Amount: 1}, 1}, {parts(60, 40), 0}, {parts(10, 20), 70}, {great, limit - 6}} {
		if Check(x.p) != api.OK || Left(x.p) != x.left {
			t.Error(x, Left(x.p))
		}
	}
	for _, p := range wrong() {
		y, e := Take(p)
		if Check(p) != api.ErrArg || Left(p) != 0 || !reflect.DeepEqual(y, api.Entry{}) || e != api.ErrArg {
			t.Error(p, y, e)
		}
	}
	if y, e := Take(parts(10, 20)); !reflect.DeepEqual(y, entry(50, api.KindPayment, of(1100, 0, 100), of(2200, 0, -100))) || e != api.OK {
		t.Error(y, e)
	}
}

func use(invoice uint64, n int64) api.Use { return api.Use{Payment: 1, Invoice: invoice, Amount: n} }

func TestP26_2(t *testing.T) {
	i, k := invoice(1, 40, 60), invoice(2, 30, 70)
	early := with(i, func(x *api.Invoice) { x.Id, x.Day = 9, 9 })
	other := with(k, func(x *api.Invoice) { x.Id, x.Customer = 3, 8 })
	twin := with(i, func(x *api.Invoice) { x.Amount = 5 })
	for _, x := range []struct {
		p    api.Payment
		l    []api.Invoice
		want []api.Use
		e    api.Errno
	}{
		{plain(), []api.Invoice{i, k}, []api.Use{use(2, 70), use(1, 30)}, api.OK}, {parts(20, 10), []api.Invoice{i, k}, []api.Use{use(2, 70)}, api.OK}, {parts(20, 11), []api.Invoice{i, k}, []api.Use{use(2, 69)}, api.OK},
		{plain(), []api.Invoice{i, early}, []api.Use{use(9, 60), use(1, 40)}, api.OK}, {plain(), []api.Invoice{other, paid(k, 70), i}, []api.Use{use(1, 60)}, api.OK}, {plain(), nil, nil, api.OK},
		{parts(100, 0), []api.Invoice{i}, nil, api.OK}, {plain(), []api.Invoice{with(i, func(x *api.Invoice) { x.Id = 4 }), i}, []api.Use{use(1, 60), use(4, 40)}, api.OK},
		{plain(), []api.Invoice{twin, i}, []api.Use{use(1, 5), use(1, 60)}, api.OK}, {plain(), []api.Invoice{i, twin}, []api.Use{use(1, 60), use(1, 5)}, api.OK},
		{plain(), []api.Invoice{i, {Customer: 8}}, nil, api.ErrArg}, {parts(101, 0), []api.Invoice{i}, nil, api.ErrArg},
	} {
		before := slices.Clone(x.l)
		l, e := Plan(x.p, x.l)
		if !slices.Equal(l, x.want) || e != x.e || !slices.Equal(before, x.l) || cap(l) != len(l) {
			t.Error(x, l, e)
		}
	}
}

func TestP26_3(t *testing.T) {
	i := invoice(1, 40, 60)
	p, x, y, e := Apply(plain(), i, 51, 60)
	if p != parts(60, 0) || x != paid(i, 60) || !reflect.DeepEqual(y, entry(51, api.KindApply, of(1200, 3, -60), of(2200, 0, 60))) || e != api.OK {
		t.Error(p, x, y, e)
	}
	p, x, y, e = Back(parts(60, 10), paid(i, 50), 52, 50)
	if p != parts(10, 10) || x != i || !reflect.DeepEqual(y, entry(52, api.KindApply, of(1200, 3, 50), of(2200, 0, -50))) || e != api.OK {
		t.Error(p, x, y, e)
	}
	if p, x, _, e := Back(parts(60, 0), paid(i, 60), 1, 60); p != plain() || x != i || e != api.OK {
		t.Error(p, x, e)
	}
	p, y, e = Refund(parts(60, 0), 53, 40)
	if p != parts(60, 40) || !reflect.DeepEqual(y, entry(53, api.KindRefund, of(1100, 0, -40), of(2200, 0, 40))) || e != api.OK {
		t.Error(p, y, e)
	}
	foreign := with(i, func(x *api.Invoice) { x.Customer = 8 })
	type act = func(api.Payment, api.Invoice, int, int64) (api.Payment, api.Invoice, api.Entry, api.Errno)
	refund := func(p api.Payment, _ api.Invoice, day int, n int64) (api.Payment, api.Invoice, api.Entry, api.Errno) {
		p, y, e := Refund(p, day, n)
		return p, api.Invoice{}, y, e
	}
	for k, z := range []struct {
		do  act
		p   api.Payment
		x   api.Invoice
		day int
		n   int64
		e   api.Errno
	}{
		{Apply, plain(), i, 50, 61, api.ErrState}, {Apply, parts(50, 0), i, 50, 51, api.ErrState}, {Apply, plain(), foreign, 50, 500, api.ErrArg}, {Apply, parts(101, 0), i, 50, 5, api.ErrArg},
		{Apply, plain(), api.Invoice{Customer: 7}, 50, 500, api.ErrArg}, {Apply, plain(), i, 0, 500, api.ErrArg}, {Apply, plain(), i, api.MaxDay + 1, 5, api.ErrArg}, {Apply, plain(), i, 50, 0, api.ErrArg},
		{Back, parts(60, 0), paid(i, 50), 50, 51, api.ErrState}, {Back, parts(40, 0), paid(i, 50), 50, 41, api.ErrState}, {Back, parts(60, 0), foreign, 50, 5, api.ErrArg}, {Back, parts(60, 0), paid(i, 50), 50, -1, api.ErrArg},
		{Back, parts(60, 0), paid(i, 50), -1, 5, api.ErrArg}, {Back, plain(), paid(i, 61), 50, 5, api.ErrArg}, {Back, parts(60, 0), paid(i, 50), 50, 1<<63 - 1, api.ErrState},
		{refund, parts(60, 0), i, 51, 41, api.ErrState}, {refund, parts(60, 0), i, 51, 0, api.ErrArg}, {refund, parts(60, 0), i, 0, 500, api.ErrArg}, {refund, parts(60, 41), i, 51, 5, api.ErrArg},
	} {
		if p, x, y, e := z.do(z.p, z.x, z.day, z.n); p != (api.Payment{}) || x != (api.Invoice{}) || !reflect.DeepEqual(y, api.Entry{}) || e != z.e {
			t.Error(k, p, x, y, e)
		}
	}
}

func TestP26_4(t *testing.T) {
	u := []api.Use{use(1, 10), {Payment: 5, Invoice: 2, Amount: 20}}
	for _, x := range []struct {
		l    []api.Use
		n    int64
		want []api.Use
		e    api.Errno
	}{
		{u, 25, []api.Use{{Payment: 5, Invoice: 2, Amount: 20}, use(1, 5)}, api.OK}, {u, 20, []api.Use{{Payment: 5, Invoice: 2, Amount: 20}}, api.OK}, {u, 1, []api.Use{{Payment: 5, Invoice: 2, Amount: 1}}, api.OK},
		{u, 30, []api.Use{{Payment: 5, Invoice: 2, Amount: 20}, use(1, 10)}, api.OK}, {u, 31, nil, api.ErrState}, {nil, 1, nil, api.ErrState}, {u, 0, nil, api.ErrArg}, {u, -1, nil, api.ErrArg},
		{[]api.Use{use(1, 0), use(1, 9)}, 5, nil, api.ErrArg}, {[]api.Use{use(0, 5)}, 500, nil, api.ErrArg}, {[]api.Use{{Invoice: 1, Amount: 5}}, 5, nil, api.ErrArg},
		{[]api.Use{use(1, 1), use(2, 1)}, 2, []api.Use{use(2, 1), use(1, 1)}, api.OK}, {slices.Repeat([]api.Use{use(1, 1<<63-1)}, 3), 1<<63 - 1, []api.Use{use(1, 1<<63-1)}, api.OK},
	} {
		before := slices.Clone(x.l)
		l, e := Undo(x.l, x.n)
		if !slices.Equal(l, x.want) || e != x.e || !slices.Equal(before, x.l) || cap(l) != len(l) {
			t.Error(x, l, e)
		}
	}
}

func TestP26_5(t *testing.T) {
	r := rand.New(rand.NewSource(45))
	for range 300 {
		p := plain()
		x := invoice(1, 40, r.Int63n(150))
		for range 20 {
			n := r.Int63n(40)
			var q api.Payment
			var z api.Invoice
			var y api.Entry
			var e api.Errno
			switch r.Intn(3) {
			case 0:
				q, z, y, e = Apply(p, x, 5, n)
			case 1:
				q, z, y, e = Back(p, x, 5, n)
			default:
				q, y, e = Refund(p, 5, n)
				z = x
			}
			if e != api.OK {
				continue
			}
			if l, no := journal.Tidy(y.Lines); !slices.Equal(l, y.Lines) || no != api.OK || journal.Check(y) != api.OK {
				t.Fatal(y)
			}
			if Check(q) != api.OK || invoices.Check(z) != api.OK || Left(q)+q.Applied+q.Refunded != q.Amount || q.Applied-p.Applied != z.Paid-x.Paid || q.Applied != z.Paid {
				t.Fatal(p, q, x, z)
			}
			p, x = q, z
		}
	}
}

func TestP26_6(t *testing.T) {
	r := rand.New(rand.NewSource(46))
	for range 500 {
		p := parts(r.Int63n(50), r.Int63n(50))
		var l []api.Invoice
		for i := range r.Intn(6) {
			l = append(l, with(invoice(uint64(i+1), 40+r.Intn(3), r.Int63n(40)), func(x *api.Invoice) { x.Customer = 7 + uint64(r.Intn(4)/3) }))
		}
		uses, e := Plan(p, l)
		if e != api.OK {
			t.Fatal(e)
		}
		for _, u := range uses {
			i := int(u.Invoice - 1)
			if p, l[i], _, e = Apply(p, l[i], 60, u.Amount); e != api.OK {
				t.Fatal(u, e)
			}
		}
		if again, _ := Plan(p, l); len(again) != 0 {
			t.Fatal(again)
		}
		open := int64(0)
		for _, x := range l {
			if x.Customer == p.Customer {
				open += invoices.Open(x)
			}
		}
		if Left(p) != 0 && open != 0 {
			t.Fatal(p, l)
		}
	}
}
