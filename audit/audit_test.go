package audit

import (
	"math/rand"
	"slices"
	"testing"

	"quittance/api"
	"quittance/drive"
	"quittance/engine"
	"quittance/script"
)

func find(kind uint8, id uint64, want, have int64) api.Finding {
	return api.Finding{Kind: kind, Id: id, Want: want, Have: have}
}

func of(account int, customer, contract uint64, n int64) api.Line {
	return api.Line{Account: account, Customer: customer, Contract: contract, Amount: n}
}

func entry(l ...api.Line) api.Entry { return api.Entry{Day: 1, Kind: 1, Lines: l} }

func invoice(id, customer, contract uint64, amount int64) api.Invoice {
	return api.Invoice{Id: id, Customer: customer, Contract: contract, Day: 1, Due: 31, From: 1, Next: 32, Amount: amount}
}

func schedule(invoice, contract uint64, amount int64) api.Schedule {
	return api.Schedule{Invoice: invoice, Contract: contract, Version: 1, Kind: api.SkStraight, Slices: []api.Slice{{Month: 1, Amount: amount}}}
}

func found(t *testing.T, l api.Ledger, want ...api.Finding) {
	t.Helper()
	if got := Audit(l); !slices.Equal(got, want) {
		t.Errorf("%v, wanted %v", got, want)
	}
}

func TestP32_1(t *testing.T) {
	found(t, api.Ledger{})
	paid := invoice(1, 7, 3, 100)
	paid.Paid = 40
	found(t, api.Ledger{Invoices: []api.Invoice{paid}}, find(2, 7, 60, 0), find(7, 3, -100, 0), find(9, 1, 40, 0), find(11, 1, 1, 0))
	found(t, api.Ledger{Entries: []api.Entry{{}}}, find(1, 1, 0, 1))
	found(t, api.Ledger{Entries: []api.Entry{entry(of(9, 7, 3, 5), of(8, 7, 3, -5)), entry(of(9, 7, 3, 5), of(8, 7, 3, -4)), {}}}, find(1, 2, 0, 1), find(1, 3, 0, 1))
	found(t, api.Ledger{Entries: []api.Entry{entry(of(1100, 1, 11, 1), of(1200, 2, 12, 2), of(2100, 3, 13, 3), of(2200, 4, 14, 4), of(3100, 5, 15, 5), of(4100, 6, 16, -15))}},
		find(2, 2, 0, 2), find(3, 4, 0, 4), find(4, 1, 0, 1), find(5, 6, 0, -15), find(6, 13, 0, 3), find(7, 13, 0, 3), find(7, 15, 0, 5))
	found(t, api.Ledger{Payments: []api.Payment{{Id: 2, Customer: 7, Day: 1, Amount: 100, Applied: 30, Refunded: 20}, {Id: 3, Customer: 7, Day: 1, Amount: 5}, {Id: 4, Customer: 8, Amount: 9, Refunded: 1}}},
		find(3, 7, -55, 0), find(4, 7, 85, 0), find(4, 8, 8, 0), find(10, 2, 30, 0))
	lost := invoice(5, 9, 4, 50)
	lost.Lost, lost.Credited = 20, 10
	bad := invoice(6, 9, 4, 50)
	bad.Lost = 60 // more than there is: nothing is open
	found(t, api.Ledger{Invoices: []api.Invoice{bad, lost}}, find(2, 9, 20, 0), find(5, 9, 80, 0), find(7, 4, -90, 0), find(8, 5, 10, 0), find(11, 5, 1, 0), find(11, 6, 1, 0))
	found(t, api.Ledger{Notes: []api.Note{{Id: 1, Invoice: 5, Amount: 7}, {Id: 2, Invoice: 5, Amount: 8}}, Uses: []api.Use{{Payment: 2, Invoice: 3, Amount: 4}, {Payment: 2, Invoice: 9, Amount: 1}}},
		find(8, 5, 0, 15), find(9, 3, 0, 4), find(9, 9, 0, 1), find(10, 2, 0, 5))
}

func TestP32_1Schedules(t *testing.T) {
	free := []api.Invoice{invoice(1, 7, 3, 0)}
	found(t, api.Ledger{Invoices: free, Schedules: []api.Schedule{schedule(1, 3, 0)}})
	found(t, api.Ledger{Invoices: free, Schedules: []api.Schedule{schedule(1, 4, 0)}}, find(11, 1, 1, 0))
	found(t, api.Ledger{Invoices: free, Schedules: []api.Schedule{schedule(2, 3, 9)}}, find(6, 3, -9, 0), find(11, 1, 1, 0))
	found(t, api.Ledger{Invoices: free, Schedules: []api.Schedule{schedule(1, 3, 0), schedule(1, 3, 0)}}, find(11, 1, 1, 2))
	invalid := schedule(1, 3, 5)
	invalid.Version = 0
	found(t, api.Ledger{Invoices: free, Schedules: []api.Schedule{invalid}}, find(11, 1, 1, 0))
	two := []api.Invoice{invoice(1, 7, 4, 0), invoice(1, 7, 3, 0)} // the last one's contract counts
	found(t, api.Ledger{Invoices: two, Schedules: []api.Schedule{schedule(1, 3, 0), schedule(1, 3, 0), schedule(1, 4, 0)}})
	done := schedule(1, 3, 5)
	done.Slices[0].Done = true
	found(t, api.Ledger{Invoices: free, Schedules: []api.Schedule{done}})
}

func TestP32_1Wraps(t *testing.T) {
	l := api.Ledger{Payments: []api.Payment{{Id: 1, Applied: 1<<63 - 1}, {Id: 1, Applied: 1}, {Id: 1, Applied: -1 << 63}}, Entries: []api.Entry{{Lines: []api.Line{of(1100, 7, 0, 1<<63-1), of(1100, 7, 0, 1)}}}}
	found(t, l, find(1, 1, 0, 1), find(4, 7, 0, -1<<63))
}

func TestP32_2(t *testing.T) {
	l := api.Ledger{Entries: []api.Entry{entry(of(1100, 7, 1, 5), of(1100, 8, 1, 9)), entry(of(1100, 7, 2, 6), of(1200, 7, 1, 9)), {Lines: []api.Line{of(5, 0, 0, 1<<63-1), of(5, 0, 0, 2)}}}}
	for _, x := range []struct {
		account  int
		customer uint64
		want     int64
	}{{1100, 7, 11}, {1100, 8, 9}, {1200, 7, 9}, {1200, 8, 0}, {-1, 0, 0}, {5, 0, -1<<63 + 1}} {
		if n := Sum(l, x.account, x.customer); n != x.want {
			t.Error(x, n)
		}
	}
}

func raw(t *testing.T, c api.Command) string {
	t.Helper()
	b, e := script.Put(c)
	if e != api.OK {
		t.Fatal(e)
	}
	return b
}

// acts are plans, customers and contracts, and then some commands that make sense
// often enough, with failures.
func acts(t *testing.T, r *rand.Rand, many int) []api.Act {
	t.Helper()
	var l []api.Act
	for id := range uint64(3) {
		l = append(l, api.Act{Raw: raw(t, api.Command{Do: 1, Id: id + 1, Text: "p", At: 1, Day: 1, Amount: r.Int63n(2000)})})
		l = append(l, api.Act{Raw: raw(t, api.Command{Do: 4, Id: id + 1, Text: "c"})})
		l = append(l, api.Act{Raw: raw(t, api.Command{Do: 5, Id: id + 1, Customer: id + 1, Plan: id + 1, Day: 1 + r.Intn(20), At: 1})})
	}
	few := func(n int) uint64 { return uint64(1 + r.Intn(n)) }
	for range many {
		c := api.Command{Do: uint8(1 + r.Intn(30)), Id: few(6), Customer: few(3), Plan: few(3), Day: 1 + r.Intn(300), Month: 1 + r.Intn(12), At: 1 + r.Intn(2), Amount: r.Int63n(2000), Text: "x", Numbers: []int64{1, 2}, Now: r.Intn(2) == 0}
		if r.Intn(3) == 0 {
			c.Do = []uint8{4, 5, 6, 6, 6, 9, 12}[r.Intn(7)]
		}
		if c.Do == 18 && r.Intn(4) > 0 { // a month that is closed refuses what follows
			c.Do = 17
		}
		l = append(l, api.Act{Raw: raw(t, c), Fails: r.Intn(10) == 0, Fuse: max(r.Intn(40)-25, 0), C: api.Crash{Keep: r.Uint64(), Torn: r.Intn(8) - 1, At: r.Intn(65)}})
	}
	return l
}

func TestP32_3(t *testing.T) {
	r := rand.New(rand.NewSource(56))
	var seen [3]int // invoices, uses, notes
	for range 30 {
		d, _ := drive.New(256 + r.Intn(1000))
		s, e := script.Open(d)
		if e != api.OK {
			t.Fatal(e)
		}
		for _, a := range acts(t, r, 250) {
			if _, e := s.Act(a); e != api.OK {
				t.Fatal(e)
			}
			if l := Audit(s.Ledger()); len(l) != 0 {
				t.Fatal(a, l)
			}
		}
		l := s.Ledger()
		seen[0], seen[1], seen[2] = seen[0]+len(l.Invoices), seen[1]+len(l.Uses), seen[2]+len(l.Notes)
	}
	if min(seen[0], seen[1], seen[2]) < 100 {
		t.Error(seen)
	}
}

// busy is a ledger with something of each kind.
func busy(t *testing.T) *engine.Engine {
	t.Helper()
	d, _ := drive.New(1024)
	g, _ := engine.Open(d)
	for i, c := range []api.Command{
		{Do: 1, Id: 1, Text: "gold", At: 1, Day: 1, Amount: 3100}, {Do: 4, Id: 7, Text: "Ada"}, {Do: 5, Id: 3, Customer: 7, Plan: 1, Day: 1, At: 1}, {Do: 6, Id: 3, Day: 1}, {Do: 6, Id: 3, Day: 40},
		{Do: 9, Customer: 7, Day: 5, Amount: 4000}, {Do: 11, Id: 1, Day: 5, Amount: 0}, {Do: 12, Id: 1, Day: 6, Amount: 500, Text: "x"}, {Do: 17, Id: 3, Month: 1}, {Do: 9, Customer: 7, Day: 5, Amount: 1000}, {Do: 13, Numbers: []int64{1}, Amount: 2}, {Do: 14, Day: 200},
	} {
		if r := g.Do(c); r.E != api.OK && c.Do != 11 {
			t.Fatal(i, r)
		}
	}
	return g
}

func TestP32_4(t *testing.T) {
	g := busy(t)
	if l := Audit(g.Ledger()); len(l) != 0 {
		t.Fatal(l)
	}
	var changes []func(*api.Ledger)
	add := func(many int, change func(l *api.Ledger, i int)) {
		if many == 0 {
			t.Error("nothing of a kind")
		}
		for i := range many {
			changes = append(changes, func(l *api.Ledger) { change(l, i) })
		}
	}
	l := g.Ledger()
	add(len(l.Invoices), func(l *api.Ledger, i int) { l.Invoices[i].Paid++ })
	add(len(l.Invoices), func(l *api.Ledger, i int) { l.Invoices[i].Credited++ })
	add(len(l.Invoices), func(l *api.Ledger, i int) { l.Invoices[i].Lost++ })
	add(len(l.Payments), func(l *api.Ledger, i int) { l.Payments[i].Applied++ })
	add(len(l.Payments), func(l *api.Ledger, i int) { l.Payments[i].Refunded++ })
	add(len(l.Uses), func(l *api.Ledger, i int) { l.Uses = slices.Delete(l.Uses, i, i+1) })
	add(len(l.Notes), func(l *api.Ledger, i int) { l.Notes = slices.Delete(l.Notes, i, i+1) })
	add(len(l.Schedules), func(l *api.Ledger, i int) { l.Schedules = slices.Delete(l.Schedules, i, i+1) })
	add(len(l.Entries), func(l *api.Ledger, i int) { l.Entries = slices.Delete(l.Entries, i, i+1) })
	for i, change := range changes {
		l := g.Ledger()
		change(&l)
		if len(Audit(l)) == 0 {
			t.Error(i, "a change is not found")
		}
	}
}
