package notes

import (
	"math/rand"
	"reflect"
	"slices"
	"strings"
	"testing"

	"quittance/api"
	"quittance/invoices"
	"quittance/journal"
)

// plain and its note are those of the examples.
func plain() api.Invoice {
	return api.Invoice{Id: 1, Customer: 7, Contract: 3, Day: 10, Due: 40, From: 10, Next: 41, Amount: 100}
}

func with(change func(*api.Invoice)) api.Invoice {
	x := plain()
	change(&x)
	return x
}

func note(amount int64) api.Note { return api.Note{Id: 1, Invoice: 1, Day: 20, Amount: amount} }

func of(account int, contract uint64, amount int64) api.Line {
	return api.Line{Account: account, Customer: 7, Contract: contract, Amount: amount}
}

// wrong are notes that are not valid.
func wrong() []api.Note {
	return []api.Note{
		{}, {Invoice: 1, Day: 20, Amount: 5}, {Id: 1, Day: 20, Amount: 5}, {Id: 1, Invoice: 1, Amount: 5}, {Id: 1, Invoice: 1, Day: api.MaxDay + 1, Amount: 5},
		note(0), note(-1), note(limit), {Id: 1, Invoice: 1, Day: 20, Amount: 5, Reason: strings.Repeat("x", 201)},
	}
}

func TestP25_1(t *testing.T) {
	for _, n := range []api.Note{note(1), note(limit - 1), {Id: 1, Invoice: 1, Day: 1, Amount: 1}, {Id: 1<<64 - 1, Invoice: 1<<64 - 1, Day: api.MaxDay, Amount: 5, Reason: strings.Repeat("x", 200)}} {
		if Check(n) != api.OK {
			t.Error(n)
		}
	}
	for _, n := range wrong() {
		if Check(n) != api.ErrArg {
			t.Error(n)
		}
	}
	want := api.Entry{Day: 10, Kind: api.KindInvoice, Source: 1, Lines: []api.Line{of(1200, 3, 100), of(2100, 3, -100)}}
	if y, e := Bill(plain()); !reflect.DeepEqual(y, want) || e != api.OK {
		t.Error(y, e)
	}
	if y, e := Bill(with(func(x *api.Invoice) { x.Credited, x.Contract = 30, 0 })); !slices.Equal(y.Lines, []api.Line{of(1200, 0, 100), of(2100, 0, -100)}) || e != api.OK {
		t.Error(y, e)
	}
	if y, e := Bill(with(func(x *api.Invoice) { x.Amount = 0 })); len(y.Lines) != 0 || y.Day != 10 || y.Kind != api.KindInvoice || y.Source != 1 || e != api.OK {
		t.Error(y, e)
	}
	if y, e := Bill(api.Invoice{}); !reflect.DeepEqual(y, api.Entry{}) || e != api.ErrArg {
		t.Error(y, e)
	}
}

func TestP25_2(t *testing.T) {
	for _, x := range []struct {
		paid, amount, deferred int64
		now                    [2]int64 // credited, paid
		lines                  []api.Line
	}{
		{0, 60, 50, [2]int64{60, 0}, []api.Line{of(1200, 3, -60), of(2100, 3, 50), of(3100, 3, 10)}},
		{80, 60, 0, [2]int64{60, 40}, []api.Line{of(1200, 3, -20), of(2200, 0, -40), of(3100, 3, 60)}},
		{80, 60, 1<<63 - 1, [2]int64{60, 40}, []api.Line{of(1200, 3, -20), of(2100, 3, 60), of(2200, 0, -40)}},
		{100, 100, 30, [2]int64{100, 0}, []api.Line{of(2100, 3, 30), of(2200, 0, -100), of(3100, 3, 70)}},
		{0, 1, 1, [2]int64{1, 0}, []api.Line{of(1200, 3, -1), of(2100, 3, 1)}},
	} {
		given := with(func(i *api.Invoice) { i.Paid = x.paid })
		want := given
		want.Credited, want.Paid = x.now[0], x.now[1]
		now, y, e := Write(note(x.amount), given, x.deferred)
		if now != want || !reflect.DeepEqual(y, api.Entry{Day: 20, Kind: api.KindNote, Source: 1, Lines: x.lines}) || e != api.OK {
			t.Error(x, now, y, e)
		}
	}
	bad := []struct {
		n        api.Note
		x        api.Invoice
		deferred int64
		e        api.Errno
	}{{note(101), plain(), 5, api.ErrState}, {note(5), plain(), -1, api.ErrArg}, {note(500), with(func(x *api.Invoice) { x.Id = 2 }), 5, api.ErrArg}, {note(5), api.Invoice{Id: 1}, 5, api.ErrArg}, {note(101), plain(), -1, api.ErrArg}}
	for _, x := range bad {
		if now, y, e := Write(x.n, x.x, x.deferred); now != (api.Invoice{}) || !reflect.DeepEqual(y, api.Entry{}) || e != x.e {
			t.Error(x, now, y, e)
		}
	}
	for _, n := range wrong() {
		if _, _, e := Write(n, plain(), 5); e != api.ErrArg {
			t.Error(n, e)
		}
	}
}

func TestP25_3(t *testing.T) {
	at := func(id uint64, day int, amount, paid, lost int64) api.Invoice {
		return with(func(x *api.Invoice) { x.Id, x.Day, x.Amount, x.Paid, x.Lost = id, day, amount, paid, lost })
	}
	for _, x := range []struct {
		l    []api.Invoice
		n    int64
		want []int64
		e    api.Errno
	}{
		{[]api.Invoice{plain(), at(2, 11, 30, 0, 0)}, 50, []int64{20, 30}, api.OK}, {[]api.Invoice{at(2, 11, 30, 0, 0), plain()}, 50, []int64{30, 20}, api.OK},
		{[]api.Invoice{at(2, 11, 30, 10, 5), plain()}, 125, []int64{25, 100}, api.OK}, {[]api.Invoice{at(2, 11, 30, 10, 5), plain()}, 126, nil, api.ErrState},
		{[]api.Invoice{at(3, 10, 30, 0, 0), at(4, 10, 30, 0, 0), at(4, 10, 20, 0, 0), at(9, 9, 30, 0, 0)}, 45, []int64{0, 25, 20, 0}, api.OK},
		{nil, 1, nil, api.ErrState}, {nil, 0, nil, api.ErrArg}, {[]api.Invoice{plain()}, -1, nil, api.ErrArg}, {[]api.Invoice{plain(), {}}, 500, nil, api.ErrArg}, {[]api.Invoice{plain()}, 1<<63 - 1, nil, api.ErrState},
		{slices.Repeat([]api.Invoice{at(1, 10, limit-1, 0, 0)}, 4), 1<<63 - 1, []int64{0, 1, limit - 1, limit - 1}, api.OK},
	} {
		before := slices.Clone(x.l)
		if l, e := Spread(x.l, x.n); !slices.Equal(l, x.want) || e != x.e || !slices.Equal(before, x.l) {
			t.Error(x, l, e)
		}
	}
}

func TestP25_4(t *testing.T) {
	r := rand.New(rand.NewSource(43))
	for range 1000 {
		x := with(func(x *api.Invoice) {
			x.Amount, x.Contract = r.Int63n(100), uint64(r.Intn(2))
			x.Paid = r.Int63n(x.Amount + 1)
			x.Lost = r.Int63n(x.Amount - x.Paid + 1)
		})
		if y, e := Bill(x); e != api.OK || len(y.Lines) > 0 && journal.Check(y) != api.OK {
			t.Fatal(x, y)
		}
		n, deferred := note(1+r.Int63n(100)), r.Int63n(100)
		now, y, e := Write(n, x, deferred)
		if e != api.OK {
			continue
		}
		sums := map[int]int64{}
		for _, l := range y.Lines {
			sums[l.Account] += l.Amount
		}
		if journal.Check(y) != api.OK || sums[2100]+sums[3100] != n.Amount || -sums[1200]-sums[2200] != n.Amount || sums[2100] > deferred || sums[2100] < 0 || -sums[2200] != x.Paid-now.Paid {
			t.Fatal(x, n, deferred, y)
		}
		if l, e := journal.Tidy(y.Lines); !slices.Equal(l, y.Lines) || e != api.OK {
			t.Fatal(y)
		}
	}
}

func TestP25_5(t *testing.T) {
	r := rand.New(rand.NewSource(44))
	for range 1000 {
		var l []api.Invoice
		for i := range r.Intn(6) {
			l = append(l, with(func(x *api.Invoice) {
				x.Id, x.Day, x.Amount = uint64(i+1), 10+r.Intn(3), r.Int63n(50)
				x.Paid = r.Int63n(x.Amount + 1)
				x.Lost = r.Int63n(x.Amount - x.Paid + 1)
			}))
		}
		n := 1 + r.Int63n(100)
		parts, e := Spread(l, n)
		if e != api.OK {
			continue
		}
		sum := int64(0)
		for i, p := range parts {
			sum += p
			if p == 0 {
				continue
			}
			if _, _, e := invoices.Credit(l[i], p); e != api.OK {
				t.Fatal(l[i], p)
			}
			for k, x := range l {
				if (x.Day > l[i].Day || x.Day == l[i].Day && x.Id > l[i].Id) && parts[k] != invoices.Open(x)+x.Paid {
					t.Fatal(l, parts)
				}
			}
		}
		if sum != n {
			t.Fatal(sum, n)
		}
	}
}
