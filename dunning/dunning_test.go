package dunning

import (
	"math/rand"
	"reflect"
	"slices"
	"testing"

	"quittance/api"
	"quittance/invoices"
)

// plain and invoice(1) are those of the examples.
func plain() api.Policy { return api.Policy{Days: []int{3, 10, 30}, Lose: 90} }

func invoice(id uint64) api.Invoice {
	return api.Invoice{Id: id, Customer: 7, Contract: 3, Day: 10, Due: 40, From: 10, Next: 41, Amount: 100, Paid: 40}
}

func with(id uint64, change func(*api.Invoice)) api.Invoice {
	x := invoice(id)
	change(&x)
	return x
}

func dun(id uint64, stage, since int) api.Dun {
	return api.Dun{Invoice: id, Stage: stage, Since: since}
}

func notice(id uint64, stage, late int) api.Notice {
	return api.Notice{Invoice: id, Customer: 7, Stage: stage, Late: late, Open: 60}
}

func wrong() []api.Policy {
	return []api.Policy{
		{}, {Lose: 5}, {Days: []int{0}}, {Days: []int{-1}}, {Days: []int{3, 3}}, {Days: []int{3, 2}}, {Days: []int{3651}}, {Days: []int{1, 2, 3, 4, 5, 6, 7, 8, 9}},
		{Days: []int{3}, Lose: 3}, {Days: []int{3}, Lose: 2}, {Days: []int{3}, Lose: -1}, {Days: []int{3}, Lose: 3651}, {Days: []int{3650, 1 << 62}},
	}
}

func TestP27_1(t *testing.T) {
	for _, p := range []api.Policy{plain(), {Days: []int{1}}, {Days: []int{1, 2, 3, 4, 5, 6, 7, 3649}, Lose: 3650}, {Days: []int{3650}}} {
		if Check(p) != api.OK {
			t.Error(p)
		}
	}
	for _, p := range wrong() {
		stage, lost, e := Stage(p, 5)
		if Check(p) != api.ErrArg || stage != 0 || lost || e != api.ErrArg {
			t.Error(p, e)
		}
	}
	for _, x := range []struct {
		late, stage int
		lost        bool
	}{{0, 0, false}, {2, 0, false}, {3, 1, false}, {9, 1, false}, {10, 2, false}, {30, 3, false}, {89, 3, false}, {90, 3, true}, {1<<63 - 1, 3, true}} {
		if stage, lost, e := Stage(plain(), x.late); stage != x.stage || lost != x.lost || e != api.OK {
			t.Error(x, stage, lost, e)
		}
	}
	if _, lost, e := Stage(api.Policy{Days: []int{3}}, 1<<62); lost || e != api.OK {
		t.Error(lost, e)
	}
	if _, _, e := Stage(plain(), -1); e != api.ErrArg {
		t.Error(e)
	}
}

func TestP27_2(t *testing.T) {
	settled := with(1, func(x *api.Invoice) { x.Paid = 100 })
	late := with(2, func(x *api.Invoice) { x.Due = 20 })
	for i, x := range []struct {
		duns []api.Dun
		l    []api.Invoice
		day  int
		want api.Dunning
	}{
		{nil, []api.Invoice{invoice(1)}, 50, api.Dunning{Duns: []api.Dun{dun(1, 2, 50)}, Notices: []api.Notice{notice(1, 2, 10)}}},
		{[]api.Dun{dun(1, 2, 50)}, []api.Invoice{invoice(1)}, 51, api.Dunning{Duns: []api.Dun{dun(1, 2, 50)}}},
		{[]api.Dun{dun(1, 2, 50)}, []api.Invoice{invoice(1)}, 70, api.Dunning{Duns: []api.Dun{dun(1, 3, 70)}, Notices: []api.Notice{notice(1, 3, 30)}}},
		{[]api.Dun{dun(1, 2, 50)}, []api.Invoice{invoice(1)}, 130, api.Dunning{Lost: []uint64{1}}},
		{[]api.Dun{dun(1, 2, 50)}, []api.Invoice{settled}, 130, api.Dunning{}}, {nil, []api.Invoice{invoice(1)}, 42, api.Dunning{}}, {nil, []api.Invoice{invoice(1)}, 5, api.Dunning{}}, {nil, nil, 1, api.Dunning{}},
		{[]api.Dun{dun(1, 8, api.MaxDay)}, []api.Invoice{settled}, api.MaxDay, api.Dunning{}}, {[]api.Dun{dun(1, 8, 50)}, []api.Invoice{invoice(1)}, 70, api.Dunning{Duns: []api.Dun{dun(1, 8, 50)}}},
		{[]api.Dun{dun(2, 1, 30)}, []api.Invoice{invoice(1), late, invoice(9)}, 50, api.Dunning{Duns: []api.Dun{dun(1, 2, 50), dun(2, 3, 50), dun(9, 2, 50)}, Notices: []api.Notice{notice(1, 2, 10), notice(2, 3, 30), notice(9, 2, 10)}}},
		{[]api.Dun{dun(2, 1, 30), dun(9, 1, 45)}, []api.Invoice{invoice(1), late, invoice(9)}, 110, api.Dunning{Duns: []api.Dun{dun(1, 3, 110), dun(9, 3, 110)}, Notices: []api.Notice{notice(1, 3, 70), notice(9, 3, 70)}, Lost: []uint64{2}}},
	} {
		duns := slices.Clone(x.duns)
		if d, e := Run(plain(), x.duns, x.l, x.day); !reflect.DeepEqual(d, x.want) || e != api.OK || !slices.Equal(duns, x.duns) {
			t.Error(i, d, e)
		}
	}
}

func TestP27_2Refused(t *testing.T) {
	one := []api.Invoice{invoice(1)}
	for i, x := range []struct {
		p    api.Policy
		duns []api.Dun
		l    []api.Invoice
		day  int
	}{
		{api.Policy{}, nil, nil, 50}, {plain(), nil, one, 0}, {plain(), nil, one, api.MaxDay + 1}, {plain(), nil, []api.Invoice{{}}, 50}, {plain(), nil, []api.Invoice{invoice(1), invoice(1)}, 50},
		{plain(), nil, []api.Invoice{invoice(2), invoice(1)}, 50}, {plain(), []api.Dun{dun(2, 1, 1)}, one, 50}, {plain(), []api.Dun{dun(0, 1, 1)}, one, 50}, {plain(), []api.Dun{dun(1, 0, 1)}, one, 50},
		{plain(), []api.Dun{dun(1, 9, 1)}, one, 50}, {plain(), []api.Dun{dun(1, 1, 0)}, one, 50}, {plain(), []api.Dun{dun(1, 1, api.MaxDay+1)}, one, 50}, {plain(), []api.Dun{dun(1, 1, 1), dun(1, 1, 1)}, one, 50},
		{plain(), []api.Dun{dun(2, 1, 1), dun(1, 1, 1)}, []api.Invoice{invoice(1), invoice(2)}, 50}, {plain(), []api.Dun{dun(1, 1, 1)}, nil, 50}, {plain(), []api.Dun{dun(1, 1, 1), dun(2, 1, 1)}, []api.Invoice{invoice(1), invoice(3)}, 50},
	} {
		if d, e := Run(x.p, x.duns, x.l, x.day); !reflect.DeepEqual(d, api.Dunning{}) || e != api.ErrArg {
			t.Error(i, d, e)
		}
	}
}

func TestP27_3(t *testing.T) {
	lost := with(1, func(x *api.Invoice) { x.Lost = 60 })
	line := func(account int, n int64) api.Line {
		return api.Line{Account: account, Customer: 7, Contract: 3, Amount: n}
	}
	want := api.Entry{Day: 50, Kind: api.KindLost, Source: 1, Lines: []api.Line{line(1200, -60), line(4100, 60)}}
	if x, y, e := Lose(invoice(1), 50); x != lost || !reflect.DeepEqual(y, want) || e != api.OK {
		t.Error(x, y, e)
	}
	for _, x := range []struct {
		x   api.Invoice
		day int
		e   api.Errno
	}{{lost, 50, api.ErrState}, {lost, 0, api.ErrArg}, {invoice(1), api.MaxDay + 1, api.ErrArg}, {api.Invoice{}, 50, api.ErrArg}} {
		if now, y, e := Lose(x.x, x.day); now != (api.Invoice{}) || !reflect.DeepEqual(y, api.Entry{}) || e != x.e {
			t.Error(x, now, y, e)
		}
	}
}

func TestP27_4and5(t *testing.T) {
	r := rand.New(rand.NewSource(47))
	for range 300 {
		var l []api.Invoice
		for i := range r.Intn(8) {
			l = append(l, with(uint64(i+1), func(x *api.Invoice) { x.Due = 40 + r.Intn(60); x.Paid = int64(r.Intn(2) * 100) }))
		}
		var duns []api.Dun
		for day := 40; day < 250; day += r.Intn(20) {
			d, e := Run(plain(), duns, l, day)
			if e != api.OK {
				t.Fatal(e)
			}
			again, e := Run(plain(), d.Duns, l, day)
			if e != api.OK || len(again.Notices) != 0 || !slices.Equal(again.Duns, d.Duns) || !slices.Equal(again.Lost, d.Lost) {
				t.Fatal(d, again)
			}
			stages := map[uint64]int{}
			for _, x := range d.Duns {
				stages[x.Invoice] = x.Stage
			}
			for _, x := range duns {
				if invoices.Open(l[x.Invoice-1]) != 0 && !slices.Contains(d.Lost, x.Invoice) && stages[x.Invoice] < x.Stage {
					t.Fatal(duns, d)
				}
			}
			for i, x := range d.Notices {
				if slices.Contains(d.Lost, x.Invoice) || i > 0 && d.Notices[i-1].Invoice >= x.Invoice || stages[x.Invoice] != x.Stage {
					t.Fatal(d)
				}
				for _, y := range d.Notices {
					if y.Late > x.Late && y.Stage < x.Stage {
						t.Fatal(d)
					}
				}
			}
			duns = d.Duns
			if r.Intn(3) == 0 && len(l) > 0 {
				l[r.Intn(len(l))].Paid = 100
			}
		}
	}
}
