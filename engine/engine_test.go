package engine

import (
	"reflect"
	"slices"
	"strings"
	"testing"

	"quittance/api"
	"quittance/civil"
	"quittance/drive"
	"quittance/wal"
)

func day(y, m, d int) int {
	n, _ := civil.Day(y, m, d)
	return n
}

func month(y, m int) int {
	n, _ := civil.Month(y, m)
	return n
}

func disk(t *testing.T, sectors int) *drive.Drive {
	t.Helper()
	d, e := drive.New(sectors)
	if e != api.OK {
		t.Fatal(e)
	}
	return d
}

func open(t *testing.T, d *drive.Drive) *Engine {
	t.Helper()
	g, e := Open(d)
	if g == nil || e != api.OK {
		t.Fatal(e)
	}
	return g
}

func fresh(t *testing.T) *Engine {
	t.Helper()
	return open(t, disk(t, 1024))
}

// ids and amounts are parts of a reply that is wanted.
func ids(l ...uint64) api.Reply { return api.Reply{Ids: l} }

func amounts(l ...int64) api.Reply { return api.Reply{Amounts: l} }

func both(i []uint64, a ...int64) api.Reply { return api.Reply{Ids: i, Amounts: a} }

func no(e api.Errno) api.Reply { return api.Reply{E: e} }

// same compares replies; lists without elements are as good as none.
func same(a, b api.Reply) bool {
	return a.E == b.E && slices.Equal(a.Ids, b.Ids) && slices.Equal(a.Amounts, b.Amounts) && slices.Equal(a.Notices, b.Notices) && slices.Equal(a.Rows, b.Rows) && slices.Equal(a.Slices, b.Slices)
}

// do executes a command; one that is refused changes nothing.
func do(t *testing.T, g *Engine, c api.Command, want api.Reply) {
	t.Helper()
	before := g.Ledger()
	r := g.Do(c)
	if !same(r, want) {
		t.Fatalf("%+v: %+v, wanted %+v", c, r, want)
	}
	if r.E != api.OK && !reflect.DeepEqual(before, g.Ledger()) {
		t.Fatalf("%+v: %d, and something is changed", c, r.E)
	}
}

// The commands, in the order of their numbers.

func plan(id uint64, name string, every, from int, amount int64) api.Command {
	return api.Command{Do: 1, Id: id, Text: name, At: every, Day: from, Amount: amount}
}

func reprice(id uint64, from int, amount int64) api.Command {
	return api.Command{Do: 2, Id: id, Day: from, Amount: amount}
}

func retire(id uint64, from int) api.Command { return api.Command{Do: 3, Id: id, Day: from} }

func customer(id uint64, name string) api.Command { return api.Command{Do: 4, Id: id, Text: name} }

func subscribe(id, customer, plan uint64, on, anchor int) api.Command {
	return api.Command{Do: 5, Id: id, Customer: customer, Plan: plan, Day: on, At: anchor}
}

func bill(id uint64, on int) api.Command { return api.Command{Do: 6, Id: id, Day: on} }

func changeTo(id, plan uint64, on int) api.Command {
	return api.Command{Do: 7, Id: id, Plan: plan, Day: on}
}

func cancel(id uint64, on int, now bool) api.Command {
	return api.Command{Do: 8, Id: id, Day: on, Now: now}
}

func pay(customer uint64, on int, amount int64) api.Command {
	return api.Command{Do: 9, Customer: customer, Day: on, Amount: amount}
}

func apply(id uint64, on int) api.Command { return api.Command{Do: 10, Id: id, Day: on} }

func refund(id uint64, on int, amount int64) api.Command {
	return api.Command{Do: 11, Id: id, Day: on, Amount: amount}
}

func credit(id uint64, on int, amount int64, why string) api.Command {
	return api.Command{Do: 12, Id: id, Day: on, Amount: amount, Text: why}
}

func policy(lose int64, days ...int64) api.Command {
	return api.Command{Do: 13, Numbers: days, Amount: lose}
}

func dun(on int) api.Command { return api.Command{Do: 14, Day: on} }

func sell(id uint64, on int, amount int64, shares ...int64) api.Command {
	return api.Command{Do: 15, Id: id, Day: on, Amount: amount, Numbers: shares}
}

func reach(id uint64, at, month int) api.Command {
	return api.Command{Do: 16, Id: id, At: at, Month: month}
}

func recognize(id uint64, month int) api.Command { return api.Command{Do: 17, Id: id, Month: month} }

func closing(month int) api.Command { return api.Command{Do: 18, Month: month} }

func balance(account int) api.Command { return api.Command{Do: 21, At: account} }

func trial() api.Command { return api.Command{Do: 22} }

func contract(id uint64, on int) api.Command { return api.Command{Do: 23, Id: id, Day: on} }

func invoice(id uint64) api.Command { return api.Command{Do: 24, Id: id} }

func payment(id uint64) api.Command { return api.Command{Do: 25, Id: id} }

func ages(customer uint64, on int) api.Command {
	return api.Command{Do: 26, Customer: customer, Day: on}
}

func waterfall(id uint64) api.Command { return api.Command{Do: 27, Id: id} }

func price(plan uint64, on int) api.Command { return api.Command{Do: 28, Plan: plan, Day: on} }

func sums(customer uint64) api.Command { return api.Command{Do: 29, Customer: customer} }

func save() api.Command { return api.Command{Do: 30} }

var noDays = []int{0, -1, api.MaxDay + 1, -1 << 63, 1<<63 - 1}

// started is a ledger with two plans, two customers, and the contract 3.
func started(t *testing.T) *Engine {
	t.Helper()
	g := fresh(t)
	do(t, g, plan(1, "gold", 1, day(2024, 1, 1), 3100), no(api.OK))
	do(t, g, plan(2, "more", 1, day(2024, 1, 1), 6200), no(api.OK))
	do(t, g, customer(7, "Ada"), no(api.OK))
	do(t, g, customer(8, "Bob"), no(api.OK))
	do(t, g, subscribe(3, 7, 1, day(2024, 1, 1), 1), no(api.OK))
	return g
}

func TestP30_1(t *testing.T) {
	for _, d := range []*drive.Drive{nil, {}} {
		if g, e := Open(d); g != nil || e != api.ErrNil {
			t.Error(e)
		}
	}
	want := api.Ledger{Policy: api.Policy{Days: []int{7, 21, 45}}}
	d := disk(t, 64)
	if l := open(t, d).Ledger(); !reflect.DeepEqual(l, want) || d.Pending() != 0 {
		t.Error(l)
	}
	d = disk(t, 64)
	w, _ := wal.Open(d)
	w.Commit([]string{"no ledger"})
	if g, e := Open(d); g != nil || e != api.ErrForm {
		t.Error(e)
	}
}

// filled is a ledger that has something in each table.
func filled(t *testing.T) *Engine {
	t.Helper()
	g := started(t)
	do(t, g, bill(3, day(2024, 1, 1)), both([]uint64{1}, 3100))
	do(t, g, pay(7, day(2024, 1, 2), 100), both([]uint64{1, 1}, 0, 100))
	do(t, g, credit(1, day(2024, 1, 2), 10, "why"), both([]uint64{1}, 0))
	do(t, g, dun(day(2024, 2, 9)), api.Reply{Notices: []api.Notice{{Invoice: 1, Customer: 7, Stage: 1, Late: 9, Open: 2990}}})
	do(t, g, policy(0, 5), no(api.OK))
	return g
}

// spoiled opens a drive with the tables of a ledger, one of which is changed.
func spoiled(t *testing.T, g *Engine, table int, change func(l [][]api.Field) [][]api.Field) api.Errno {
	t.Helper()
	d := disk(t, 1024)
	other := open(t, d)
	set := other.store.Stage()
	for k := range g.kinds() {
		l, _ := g.store.All(k)
		if k == table {
			l = change(l)
		}
		for _, r := range l {
			if e := set.Put(k, r); e != api.OK {
				t.Fatal(k, r, e)
			}
		}
	}
	if e := other.store.Commit(set); e != api.OK {
		t.Fatal(e)
	}
	_, e := Open(d)
	return e
}

// TestP30_1Form opens drives whose tables are no ledger's.
func TestP30_1Form(t *testing.T) {
	g := filled(t)
	field := func(i int, x api.Field) func(l [][]api.Field) [][]api.Field {
		return func(l [][]api.Field) [][]api.Field {
			l[0][i] = x
			return l
		}
	}
	n := func(x uint64) api.Field { return api.Field{N: x} }
	s := func(x string) api.Field { return api.Field{S: x} }
	none := func(l [][]api.Field) [][]api.Field { return nil }
	const plans, customers, contracts, invoices, schedules, notes, payments, uses, duns, entries, rules = 0, 1, 2, 3, 4, 5, 6, 7, 8, 9, 10
	for i, x := range []struct {
		table  int
		change func(l [][]api.Field) [][]api.Field
	}{
		{plans, none}, {plans, field(0, n(9))}, {plans, field(1, n(0))}, {plans, field(1, n(1<<63+1))}, {plans, field(3, s(""))}, {plans, field(4, s("\x05\x05\x05"))}, {plans, field(4, s("\x80"))},
		{customers, field(0, n(9))}, {customers, field(1, s(""))}, {contracts, none}, {contracts, field(1, n(9))}, {contracts, field(2, n(9))}, {contracts, field(7, n(2001))}, {contracts, field(10, n(api.MaxMonth+1))},
		{invoices, none}, {invoices, field(0, n(2))}, {invoices, field(0, n(0))}, {invoices, field(1, n(8))}, {invoices, field(2, n(9))}, {invoices, field(4, n(1<<64-1))}, {invoices, field(9, n(5000))},
		{schedules, none}, {schedules, field(0, n(2))}, {schedules, field(1, n(9))}, {schedules, field(3, n(257))}, {schedules, field(4, s(""))}, {schedules, field(4, s("\x05\x80"))},
		{notes, field(0, n(2))}, {notes, field(1, n(9))}, {notes, field(3, n(0))}, {payments, none}, {payments, field(1, n(9))}, {payments, field(4, n(500))},
		{uses, field(0, n(2))}, {uses, field(1, n(9))}, {uses, field(2, n(9))}, {uses, field(3, n(1<<63))}, {duns, field(0, n(9))}, {duns, field(1, n(0))}, {duns, field(2, n(1<<63))},
		{entries, field(0, n(9))}, {entries, field(1, s(""))}, {entries, field(1, s("\x01\x01\x00\x02\x05\x00\x00\x0a\x88\x30\x00\x00\x09"))}, // there is no account 5
		{rules, field(0, n(2))}, {rules, field(1, n(api.MaxMonth+1))}, {rules, field(3, s(""))}, {rules, field(3, s("\x05\x05"))},
		{rules, func(l [][]api.Field) [][]api.Field { return append(l, append([]api.Field{n(2)}, l[0][1:]...)) }},
	} {
		if e := spoiled(t, g, x.table, x.change); e != api.ErrForm {
			t.Error(i, x.table, e)
		}
	}
	if e := spoiled(t, g, -1, nil); e != api.OK {
		t.Error(e)
	}
}

func TestP30_2Nil(t *testing.T) {
	for _, g := range []*Engine{nil, {}} {
		if r := g.Do(customer(1, "a")); !same(r, no(api.ErrNil)) {
			t.Error(r)
		}
		if l := g.Ledger(); !reflect.DeepEqual(l, api.Ledger{}) {
			t.Error(l)
		}
	}
	g := fresh(t)
	for _, n := range []uint8{0, 19, 20, 31, 255} {
		do(t, g, api.Command{Do: n, Id: 1, Text: "a"}, no(api.ErrArg))
	}
}

func TestP30_2Plans(t *testing.T) {
	g := fresh(t)
	from := day(2024, 1, 1)
	do(t, g, plan(1, "gold", 1, from, 3100), no(api.OK))
	do(t, g, plan(1, "gold", 1, from, 3100), no(api.ErrThere))
	for _, c := range []api.Command{plan(0, "a", 1, from, 5), plan(1, "", 1, from, 5), plan(2, strings.Repeat("x", 61), 1, from, 5), plan(2, "a", 0, from, 5), plan(2, "a", 121, from, 5), plan(2, "a", 1, 0, 5), plan(2, "a", 1, from, -1), plan(2, "a", 1, from, limit)} {
		do(t, g, c, no(api.ErrArg))
	}
	do(t, g, reprice(1, from, 5), no(api.ErrState))
	do(t, g, reprice(1, from+10, -5), no(api.ErrArg))
	do(t, g, reprice(2, from+10, 5), no(api.ErrNone))
	do(t, g, reprice(0, from+10, 5), no(api.ErrNone))
	do(t, g, reprice(1, from+10, 5), no(api.OK))
	do(t, g, retire(1, from+10), no(api.ErrState))
	do(t, g, retire(1, 0), no(api.ErrArg))
	do(t, g, retire(2, from), no(api.ErrNone))
	do(t, g, retire(1, from+20), no(api.OK))
	do(t, g, retire(1, from+20), no(api.ErrState))
	do(t, g, price(1, from-1), no(api.ErrState))
	do(t, g, price(1, from), amounts(3100))
	do(t, g, price(1, from+10), amounts(5))
	do(t, g, price(2, from), no(api.ErrNone))
	do(t, g, price(2, 0), no(api.ErrArg))
	do(t, g, plan(5, "all", 120, 1, limit-1), no(api.OK))
	for i := range 99 {
		do(t, g, reprice(5, 2+i, 1), no(api.OK))
	}
	do(t, g, reprice(5, 200, 1), no(api.ErrFull))
	want := []api.Plan{{Id: 1, Name: "gold", Every: 1, Prices: []api.Price{{From: from, Amount: 3100}, {From: from + 10, Amount: 5}}, Retired: from + 20}}
	if l := g.Ledger().Plans; len(l) != 2 || !reflect.DeepEqual(l[:1], want) || len(l[1].Prices) != 100 {
		t.Error(l)
	}
}

func TestP30_2Customers(t *testing.T) {
	g := fresh(t)
	do(t, g, customer(7, "Ada"), no(api.OK))
	do(t, g, customer(7, "Bob"), no(api.ErrThere))
	do(t, g, customer(7, ""), no(api.ErrArg))
	do(t, g, customer(0, "a"), no(api.ErrArg))
	do(t, g, customer(8, strings.Repeat("x", 61)), no(api.ErrArg))
	do(t, g, customer(1<<64-1, strings.Repeat("\x00", 60)), no(api.OK))
	do(t, g, sums(7), amounts(0, 0, 0, 0))
	do(t, g, sums(0), no(api.ErrNone))
	do(t, g, sums(9), no(api.ErrNone))
	if l := g.Ledger().Customers; len(l) != 2 || l[0] != (api.Customer{Id: 7, Name: "Ada"}) {
		t.Error(l)
	}
}

func TestP30_2Subscribe(t *testing.T) {
	g := started(t)
	on := day(2024, 1, 1)
	for _, d := range noDays {
		do(t, g, subscribe(3, 9, 9, d, 1), no(api.ErrArg))
	}
	do(t, g, subscribe(0, 7, 1, on, 1), no(api.ErrArg))
	do(t, g, subscribe(3, 9, 9, on, 0), no(api.ErrArg))
	do(t, g, subscribe(3, 9, 9, on, 32), no(api.ErrArg))
	do(t, g, subscribe(3, 9, 9, on, 1), no(api.ErrThere))
	do(t, g, subscribe(4, 9, 1, on-1, 1), no(api.ErrNone))
	do(t, g, subscribe(4, 7, 9, on-1, 1), no(api.ErrNone))
	do(t, g, subscribe(4, 7, 1, on-1, 1), no(api.ErrState))
	do(t, g, retire(2, on+50), no(api.OK))
	do(t, g, subscribe(4, 7, 2, on+50, 1), no(api.ErrState))
	do(t, g, subscribe(4, 7, 2, on+49, 31), no(api.OK))
	want := api.Contract{S: api.Sub{Id: 4, Customer: 7, Plan: 2, Cycle: api.Cycle{Start: on + 49, Anchor: 31, Every: 1}, Price: 6200}}
	if l := g.Ledger().Contracts; len(l) != 2 || l[1] != want {
		t.Error(l)
	}
	do(t, g, contract(4, on), amounts(6200, 0, 0, 0, 0, 0))
	do(t, g, contract(4, on+49), amounts(6200, 0, 0, 1, 0, 0))
	do(t, g, contract(5, on), no(api.ErrNone))
	do(t, g, contract(0, on), no(api.ErrNone))
	do(t, g, contract(5, 0), no(api.ErrArg))
}

func TestP30_2Bill(t *testing.T) {
	g := started(t)
	on := day(2024, 1, 1)
	do(t, g, bill(9, 0), no(api.ErrArg))
	do(t, g, bill(9, on), no(api.ErrNone))
	do(t, g, bill(3, on-1), no(api.ErrState))
	do(t, g, bill(3, on), both([]uint64{1}, 3100))
	do(t, g, bill(3, day(2024, 1, 31)), no(api.ErrState))
	do(t, g, bill(3, api.MaxDay-29), no(api.ErrArg))
	do(t, g, bill(3, api.MaxDay-30), both([]uint64{2}, 3100))
	l := g.Ledger()
	x := api.Invoice{Id: 1, Customer: 7, Contract: 3, Day: on, Due: on + 30, From: on, Next: on + 31, Amount: 3100}
	y := api.Entry{Day: on, Kind: api.KindInvoice, Source: 1, Lines: []api.Line{{Account: 1200, Customer: 7, Contract: 3, Amount: 3100}, {Account: 2100, Customer: 7, Contract: 3, Amount: -3100}}}
	s := api.Schedule{Invoice: 1, Contract: 3, Version: 1, Kind: api.SkStraight, Slices: []api.Slice{{Month: month(2024, 1), Amount: 3100}}}
	if len(l.Invoices) != 2 || l.Invoices[0] != x || !reflect.DeepEqual(l.Entries[0], y) || !reflect.DeepEqual(l.Schedules[0], s) || l.Contracts[0].S.Billed != 2 {
		t.Error(l)
	}
	if x := l.Invoices[1]; x.Day != api.MaxDay-30 || x.Due != api.MaxDay || x.From != on+31 {
		t.Error(x)
	}
	do(t, g, plan(4, "free", 1, 1, 0), no(api.OK))
	do(t, g, subscribe(4, 8, 4, on, 1), no(api.OK))
	do(t, g, bill(4, on), both([]uint64{3}, 0))
	if l := g.Ledger(); len(l.Entries) != 2 || len(l.Schedules) != 3 {
		t.Error(l.Entries)
	}
	do(t, g, contract(3, on), amounts(3100, 2, 0, 1, 0, 6200))
}

func TestP30_2Pay(t *testing.T) {
	g := started(t)
	on := day(2024, 1, 1)
	do(t, g, pay(0, on, 5), no(api.ErrArg))
	do(t, g, pay(9, 0, 5), no(api.ErrArg))
	do(t, g, pay(9, on, 0), no(api.ErrArg))
	do(t, g, pay(9, on, limit), no(api.ErrArg))
	do(t, g, pay(9, on, 5), no(api.ErrNone))
	do(t, g, pay(7, on, 500), both([]uint64{1}, 500))
	do(t, g, apply(1, on), no(api.ErrState))
	do(t, g, apply(9, on), no(api.ErrNone))
	do(t, g, apply(9, 0), no(api.ErrArg))
	do(t, g, bill(3, on), both([]uint64{1}, 3100))
	do(t, g, apply(1, on+1), both([]uint64{1}, 500))
	do(t, g, bill(3, on+40), both([]uint64{2}, 3100))
	do(t, g, pay(7, on+41, 3000), both([]uint64{2, 1, 2}, 0, 2600, 400))
	do(t, g, payment(2), amounts(3000, 3000, 0, 0))
	do(t, g, pay(7, on+42, 3000), both([]uint64{3, 2}, 300, 2700))
	do(t, g, invoice(2), amounts(3100, 0, 3100, 0, 0, 3100))
	do(t, g, refund(3, on+42, 301), no(api.ErrState))
	do(t, g, refund(3, on+42, 0), no(api.ErrArg))
	do(t, g, refund(9, 0, 5), no(api.ErrArg))
	do(t, g, refund(9, on, 5), no(api.ErrNone))
	do(t, g, refund(3, on+43, 100), no(api.OK))
	do(t, g, payment(3), amounts(3000, 2700, 100, 200))
	do(t, g, payment(0), no(api.ErrNone))
	do(t, g, payment(4), no(api.ErrNone))
	do(t, g, sums(7), amounts(6400, 0, -200, 0))
	do(t, g, balance(1100), amounts(6400))
	do(t, g, balance(9), no(api.ErrNone))
	do(t, g, trial(), api.Reply{Rows: []api.Balance{{Account: 1100, Debit: 6400}, {Account: 2100, Credit: 6200}, {Account: 2200, Credit: 200}}})
	want := []api.Use{{Payment: 1, Invoice: 1, Amount: 500}, {Payment: 2, Invoice: 1, Amount: 2600}, {Payment: 2, Invoice: 2, Amount: 400}, {Payment: 3, Invoice: 2, Amount: 2700}}
	if l := g.Ledger(); !slices.Equal(l.Uses, want) || len(l.Entries) != 10 || l.Entries[9].Kind != api.KindRefund {
		t.Error(l)
	}
}

func TestP30_2Credit(t *testing.T) {
	g := started(t)
	on := day(2024, 1, 1)
	do(t, g, bill(3, on), both([]uint64{1}, 3100))
	do(t, g, pay(7, on, 500), both([]uint64{1, 1}, 0, 500))
	do(t, g, pay(7, on, 1500), both([]uint64{2, 1}, 0, 1500))
	do(t, g, credit(9, 0, 5, ""), no(api.ErrArg))
	do(t, g, credit(9, on, 0, ""), no(api.ErrArg))
	do(t, g, credit(9, on, limit, ""), no(api.ErrArg))
	do(t, g, credit(9, on, 5, strings.Repeat("x", 201)), no(api.ErrArg))
	do(t, g, credit(9, on, 5, ""), no(api.ErrNone))
	do(t, g, credit(1, on, 3101, ""), no(api.ErrState))
	do(t, g, credit(1, on+1, 1500, "late"), both([]uint64{1}, 400))
	do(t, g, invoice(1), amounts(3100, 1500, 1600, 0, 0, 1600))
	do(t, g, payment(2), amounts(1500, 1100, 0, 400))
	do(t, g, payment(1), amounts(500, 500, 0, 0))
	do(t, g, sums(7), amounts(2000, 0, -400, 0))
	do(t, g, credit(1, on+1, 1300, ""), both([]uint64{2}, 1300))
	do(t, g, payment(2), amounts(1500, 0, 0, 1500))
	do(t, g, payment(1), amounts(500, 300, 0, 200))
	l := g.Ledger()
	if want := []api.Use{{Payment: 1, Invoice: 1, Amount: 300}, {Payment: 2, Invoice: 1}}; !slices.Equal(l.Uses, want) {
		t.Error(l.Uses)
	}
	if want := []api.Note{{Id: 1, Invoice: 1, Day: on + 1, Amount: 1500, Reason: "late"}, {Id: 2, Invoice: 1, Day: on + 1, Amount: 1300}}; !slices.Equal(l.Notes, want) || l.Schedules[0].Version != 3 {
		t.Error(l.Notes, l.Schedules)
	}
	do(t, g, recognize(3, month(2024, 1)), both([]uint64{1}, 300))
	do(t, g, credit(1, day(2024, 2, 1), 200, ""), both([]uint64{3}, 200))
	do(t, g, balance(3100), amounts(-100))
	do(t, g, apply(2, day(2024, 2, 1)), no(api.ErrState))
}

func TestP30_2Change(t *testing.T) {
	g := started(t)
	on := day(2024, 1, 1)
	do(t, g, plan(5, "year", 12, on, 5), no(api.OK))
	do(t, g, plan(6, "free", 1, on, 0), no(api.OK))
	do(t, g, retire(5, on+5), no(api.OK))
	do(t, g, changeTo(9, 9, 0), no(api.ErrArg))
	do(t, g, changeTo(9, 1, on), no(api.ErrNone))
	do(t, g, changeTo(3, 9, on), no(api.ErrNone))
	do(t, g, changeTo(3, 2, on-1), no(api.ErrState))
	do(t, g, changeTo(3, 5, on), no(api.ErrState))
	do(t, g, changeTo(3, 2, on), no(api.ErrState)) // nothing is billed
	do(t, g, bill(3, on), both([]uint64{1}, 3100))
	do(t, g, changeTo(3, 2, day(2024, 1, 21)), both([]uint64{1, 2}, 1100, 2200))
	l := g.Ledger()
	if x := l.Invoices[1]; x.Day != day(2024, 1, 21) || x.From != x.Day || x.Next != day(2024, 2, 1) || x.Amount != 2200 || l.Notes[0].Reason != "change" || l.Notes[0].Amount != 1100 {
		t.Error(l.Invoices, l.Notes)
	}
	do(t, g, contract(3, on), amounts(6200, 1, 0, 1, 0, 4200))
	do(t, g, changeTo(3, 1, day(2024, 1, 20)), no(api.ErrState))
	do(t, g, changeTo(3, 6, day(2024, 1, 31)), both([]uint64{2}, 200, 0))
	do(t, g, changeTo(3, 6, day(2024, 1, 31)), both(nil, 0, 0))
	do(t, g, credit(1, on, 2000, ""), both([]uint64{3}, 0))
	do(t, g, credit(2, on, 2000, ""), both([]uint64{4}, 0))
	do(t, g, changeTo(3, 2, day(2024, 1, 31)), both([]uint64{3}, 0, 200))
	do(t, g, credit(3, on, 200, ""), both([]uint64{5}, 0))
	do(t, g, changeTo(3, 1, day(2024, 1, 31)), no(api.ErrState)) // no invoice has anything left to credit
	late := fresh(t)
	do(t, late, plan(1, "a", 1, 1, 30), no(api.OK))
	do(t, late, customer(7, "Ada"), no(api.OK))
	do(t, late, subscribe(3, 7, 1, day(9999, 11, 1), 1), no(api.OK))
	do(t, late, bill(3, day(9999, 11, 1)), both([]uint64{1}, 30))
	do(t, late, changeTo(3, 1, day(9999, 12, 1)), no(api.ErrState))
	do(t, late, changeTo(3, 1, day(9999, 11, 30)), both([]uint64{1, 2}, 1, 1))
	do(t, late, cancel(3, api.MaxDay, false), no(api.ErrNone))
}

func TestP30_2Cancel(t *testing.T) {
	g := started(t)
	on := day(2024, 1, 1)
	do(t, g, cancel(9, 0, true), no(api.ErrArg))
	do(t, g, cancel(9, on, true), no(api.ErrNone))
	do(t, g, cancel(3, on-1, true), no(api.ErrState))
	do(t, g, bill(3, on), both([]uint64{1}, 3100))
	do(t, g, bill(3, on+40), both([]uint64{2}, 3100))
	do(t, g, credit(2, on+40, 3000, ""), both([]uint64{1}, 0))
	do(t, g, cancel(3, on+5, false), no(api.ErrState))
	do(t, g, cancel(3, day(2024, 2, 11), true), both([]uint64{2, 3}, 2032, int64(day(2024, 2, 11))))
	l := g.Ledger()
	if l.Notes[1] != (api.Note{Id: 2, Invoice: 1, Day: day(2024, 2, 11), Amount: 1932, Reason: "cancel"}) || l.Notes[2].Invoice != 2 || l.Notes[2].Amount != 100 {
		t.Error(l.Notes)
	}
	do(t, g, cancel(3, day(2024, 2, 11), true), no(api.ErrState))
	do(t, g, subscribe(4, 8, 1, on, 15), no(api.OK))
	do(t, g, cancel(4, on+2, false), both(nil, 0, int64(day(2024, 1, 15))))
	do(t, g, contract(4, on+2), amounts(3100, 0, int64(day(2024, 1, 15)), 2, 0, 0))
	do(t, g, bill(4, on+100), both([]uint64{3}, 1400))
	do(t, g, bill(4, on+100), no(api.ErrState))
	do(t, g, contract(4, on+100), amounts(3100, 1, int64(day(2024, 1, 15)), 3, 0, 1400))
}

func TestP30_2Dun(t *testing.T) {
	g := started(t)
	on := day(2024, 1, 1)
	do(t, g, bill(3, on), both([]uint64{1}, 3100))
	do(t, g, bill(3, on+40), both([]uint64{2}, 3100))
	do(t, g, dun(0), no(api.ErrArg))
	do(t, g, dun(on+36), no(api.OK))
	one := api.Notice{Invoice: 1, Customer: 7, Stage: 1, Late: 7, Open: 3100}
	do(t, g, dun(on+37), api.Reply{Notices: []api.Notice{one}})
	do(t, g, dun(on+37), no(api.OK))
	for _, c := range []api.Command{policy(0), policy(0, 0), policy(0, 5, 5), policy(5, 5), policy(-1, 5), policy(3651, 5), policy(0, 1<<40), policy(0, 1, 2, 3, 4, 5, 6, 7, 8, 9)} {
		do(t, g, c, no(api.ErrArg))
	}
	do(t, g, policy(50, 2, 10), no(api.OK))
	if p := g.Ledger().Policy; !reflect.DeepEqual(p, api.Policy{Days: []int{2, 10}, Lose: 50}) {
		t.Error(p)
	}
	do(t, g, pay(7, on+40, 100), both([]uint64{1, 1}, 0, 100))
	two := api.Notice{Invoice: 2, Customer: 7, Stage: 1, Late: 9, Open: 3100}
	do(t, g, dun(on+79), api.Reply{Notices: []api.Notice{{Invoice: 1, Customer: 7, Stage: 2, Late: 49, Open: 3000}, two}})
	do(t, g, dun(on+80), api.Reply{Notices: []api.Notice{{Invoice: 2, Customer: 7, Stage: 2, Late: 10, Open: 3100}}, Ids: []uint64{1}, Amounts: []int64{3000}})
	l := g.Ledger()
	if !slices.Equal(l.Duns, []api.Dun{{Invoice: 2, Stage: 2, Since: on + 80}}) || l.Entries[len(l.Entries)-1].Kind != api.KindLost {
		t.Error(l.Duns)
	}
	do(t, g, sums(7), amounts(100, 3100, 0, 3000))
	do(t, g, ages(7, on+71), amounts(0, 3100, 0, 0, 0))
	do(t, g, ages(0, on+1000), amounts(0, 0, 0, 0, 3100))
	do(t, g, ages(8, on), amounts(0, 0, 0, 0, 0))
	do(t, g, ages(9, on), no(api.ErrNone))
	do(t, g, ages(9, 0), no(api.ErrArg))
}

func TestP30_2Sell(t *testing.T) {
	g := started(t)
	on := day(2024, 1, 10)
	do(t, g, sell(9, 0, 5, 1), no(api.ErrArg))
	do(t, g, sell(9, on, 0, 1), no(api.ErrArg))
	do(t, g, sell(9, on, limit, 1), no(api.ErrArg))
	do(t, g, sell(9, on, 5), no(api.ErrArg))
	do(t, g, sell(9, on, 5, 0, 0), no(api.ErrArg))
	do(t, g, sell(9, on, 5, 1, -1), no(api.ErrArg))
	do(t, g, sell(9, on, 5, slices.Repeat([]int64{1}, 101)...), no(api.ErrArg))
	do(t, g, sell(9, api.MaxDay-29, 5, 1), no(api.ErrArg))
	do(t, g, sell(9, on, 5, 1), no(api.ErrNone))
	do(t, g, sell(3, on, 100, 1, 2), ids(1))
	do(t, g, sell(3, api.MaxDay-30, 100, slices.Repeat([]int64{1}, 100)...), ids(2))
	if x := g.Ledger().Invoices[0]; x.From != on || x.Next != on+1 || x.Day != on || x.Due != on+30 || x.Contract != 3 || x.Customer != 7 {
		t.Error(x)
	}
	m := month(2024, 5)
	do(t, g, reach(9, 0, 0), no(api.ErrArg))
	do(t, g, reach(9, -1, m), no(api.ErrArg))
	do(t, g, reach(9, 0, m), no(api.ErrNone))
	do(t, g, reach(0, 0, m), no(api.ErrNone))
	do(t, g, reach(1, 2, m), no(api.ErrArg))
	do(t, g, reach(1, 1, m), no(api.OK))
	do(t, g, reach(1, 1, m), no(api.ErrState))
	do(t, g, waterfall(3), api.Reply{Slices: []api.Slice{{Amount: 133}, {Month: m, Amount: 67}}})
	do(t, g, recognize(3, m-1), no(api.OK))
	do(t, g, recognize(3, m), both([]uint64{1}, 67))
	do(t, g, waterfall(0), api.Reply{Slices: []api.Slice{{Amount: 133}}})
	do(t, g, waterfall(9), no(api.ErrNone))
	do(t, g, bill(3, on), both([]uint64{3}, 3100))
	do(t, g, reach(3, 0, m), no(api.ErrState))
}

func TestP30_2Recognize(t *testing.T) {
	g := started(t)
	on, m := day(2024, 1, 1), month(2024, 1)
	do(t, g, bill(3, on), both([]uint64{1}, 3100))
	do(t, g, bill(3, on+31), both([]uint64{2}, 3100))
	do(t, g, recognize(9, 0), no(api.ErrArg))
	do(t, g, recognize(9, api.MaxMonth+1), no(api.ErrArg))
	do(t, g, recognize(9, m), no(api.ErrNone))
	do(t, g, closing(0), no(api.ErrArg))
	do(t, g, closing(m), no(api.ErrState))
	do(t, g, recognize(3, m), both([]uint64{1}, 3100))
	do(t, g, recognize(3, m), no(api.ErrDone))
	do(t, g, closing(m), no(api.OK))
	do(t, g, closing(m), no(api.ErrState))
	do(t, g, closing(m-1), no(api.ErrState))
	do(t, g, closing(m+1), no(api.ErrState))
	for _, c := range []api.Command{pay(7, day(2024, 1, 31), 5), sell(3, on, 5, 1), credit(2, on, 5, "")} {
		do(t, g, c, no(api.ErrClosed))
	}
	do(t, g, pay(7, day(2024, 2, 1), 5), both([]uint64{1, 1}, 0, 5))
	do(t, g, refund(1, on, 5), no(api.ErrState))
	do(t, g, bill(3, on), no(api.ErrState))
	if g.Ledger().Closed != m {
		t.Error(g.Ledger().Closed)
	}
	do(t, g, contract(3, on), amounts(3100, 2, 0, 1, int64(m), 3100))
	do(t, g, balance(3100), amounts(-3100))
}

// TestP30_2Edges goes to the ends of the calendar, and down to amounts of 1.
func TestP30_2Edges(t *testing.T) {
	g := fresh(t)
	do(t, g, plan(1, "p", 1, 1, 1), no(api.OK))
	do(t, g, customer(7, "Ada"), no(api.OK))
	do(t, g, subscribe(3, 7, 1, 1, 1), no(api.OK))
	do(t, g, bill(3, 1), both([]uint64{1}, 1))
	do(t, g, pay(7, 1, 1), both([]uint64{1, 1}, 0, 1))
	do(t, g, credit(1, 1, 1, strings.Repeat("x", 200)), both([]uint64{1}, 1))
	do(t, g, invoice(1), amounts(1, 1, 0, 0, 0, 0))
	do(t, g, payment(1), amounts(1, 0, 0, 1))
	do(t, g, refund(1, 1, 1), no(api.OK))
	do(t, g, sell(3, 1, 1, 1), ids(2))
	do(t, g, reach(2, 0, 1), no(api.OK))
	do(t, g, recognize(3, 1), both([]uint64{2}, 1))
	do(t, g, sell(3, 50, 5, 1), ids(3))
	do(t, g, reach(3, 0, api.MaxMonth), no(api.OK))
	do(t, g, closing(1), no(api.OK))
	do(t, g, closing(api.MaxMonth-1), no(api.OK))
	do(t, g, recognize(3, api.MaxMonth), both([]uint64{3}, 5))
	do(t, g, closing(api.MaxMonth), no(api.OK))
	do(t, g, dun(1), no(api.OK))
	do(t, g, dun(api.MaxDay), api.Reply{Notices: []api.Notice{{Invoice: 2, Customer: 7, Stage: 3, Late: api.MaxDay - 31, Open: 1}, {Invoice: 3, Customer: 7, Stage: 3, Late: api.MaxDay - 80, Open: 5}}})
	do(t, g, contract(3, 1), amounts(1, 1, 0, 1, api.MaxMonth, 0))
}

func TestP30_2Over(t *testing.T) {
	g := started(t)
	on := day(2024, 1, 1)
	do(t, g, sell(3, on, limit-1, 1), ids(1))
	do(t, g, sell(3, on, limit-1, 1), ids(2))
	do(t, g, sell(3, on, 2, 1), no(api.ErrOver))
	do(t, g, sell(3, on, 1, 1), ids(3))
	do(t, g, bill(3, on), no(api.ErrOver))
	do(t, g, ages(0, on), amounts(1<<63-1, 0, 0, 0, 0))
	do(t, g, waterfall(0), api.Reply{Slices: []api.Slice{{Amount: 1<<63 - 1}}})
	for i := range 3 {
		do(t, g, reach(uint64(i+1), 0, month(2024, 1)), no(api.OK))
	}
	do(t, g, recognize(3, month(2024, 1)), no(api.ErrOver))
}

func TestP30_2Full(t *testing.T) {
	d := disk(t, 16)
	g := open(t, d)
	name := strings.Repeat("x", 60)
	id := uint64(1)
	for ; ; id++ {
		before := g.Ledger()
		r := g.Do(customer(id, name))
		if r.E == api.ErrFull {
			if !reflect.DeepEqual(before, g.Ledger()) || !same(r, no(api.ErrFull)) {
				t.Error(r)
			}
			break
		}
		if r.E != api.OK || id > 9 {
			t.Fatal(id, r)
		}
	}
	if id < 3 {
		t.Error(id)
	}
	do(t, g, customer(id, "x"), no(api.OK))
	do(t, g, save(), no(api.OK))
	if !reflect.DeepEqual(open(t, d).Ledger(), g.Ledger()) {
		t.Error(open(t, d).Ledger())
	}
}

func TestP30_2Down(t *testing.T) {
	d := disk(t, 128)
	g := open(t, d)
	do(t, g, customer(1, "a"), no(api.OK))
	d.Fuse(0)
	do(t, g, sums(1), amounts(0, 0, 0, 0))
	do(t, g, customer(2, "b"), no(api.ErrDown))
	d.Fuse(-1)
	do(t, g, customer(2, "b"), no(api.ErrDown))
	do(t, g, customer(1, "b"), no(api.ErrThere))
	do(t, g, save(), no(api.ErrDown))
	do(t, g, dun(1), no(api.ErrDown))
	do(t, g, sums(1), amounts(0, 0, 0, 0))
	d.Crash(api.Crash{})
	g = open(t, d)
	do(t, g, customer(2, "b"), no(api.OK))
	d.Fuse(1)
	do(t, g, save(), no(api.ErrDown))
}

func TestP30_3(t *testing.T) {
	g := started(t)
	on := day(2024, 1, 1)
	do(t, g, bill(3, on), both([]uint64{1}, 3100))
	do(t, g, pay(7, on, 100), both([]uint64{1, 1}, 0, 100))
	do(t, g, dun(on+40), api.Reply{Notices: []api.Notice{{Invoice: 1, Customer: 7, Stage: 1, Late: 10, Open: 3000}}})
	l := g.Ledger()
	l.Plans[0].Prices[0].Amount, l.Schedules[0].Slices[0].Amount, l.Entries[0].Lines[0].Amount = 5, 5, 5
	l.Policy.Days[0], l.Duns[0].Stage, l.Uses[0].Amount = 5, 5, 5
	again := g.Ledger()
	if reflect.DeepEqual(l, again) || again.Plans[0].Prices[0].Amount != 3100 || again.Schedules[0].Slices[0].Amount != 3100 || again.Entries[0].Lines[0].Amount != 3100 || again.Policy.Days[0] != 7 {
		t.Error(again)
	}
	numbers := []int64{3, 9}
	do(t, g, policy(0, numbers...), no(api.OK))
	numbers[0] = 5
	if p := g.Ledger().Policy; p.Days[0] != 3 {
		t.Error(p)
	}
}
