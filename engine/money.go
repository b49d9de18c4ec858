package engine

import (
	"slices"

	"quittance/api"
	"quittance/cash"
	"quittance/dunning"
	"quittance/notes"
	"quittance/sched"
	"quittance/split"
)

// post adds an entry, if it has lines.
func (g *Engine) post(y api.Entry) {
	if len(y.Lines) > 0 {
		g.entries.put(g.entries.next(), y)
	}
}

// invoice invoices a contract: x has the day, the term and the amount, s the kind
// and the slices.
func (g *Engine) invoice(k api.Contract, x api.Invoice, s api.Schedule) (uint64, api.Errno) {
	x.Id = g.invoices.next()
	x.Customer, x.Contract, x.Due = k.S.Customer, k.S.Id, x.Day+term
	s.Invoice, s.Contract, s.Version = x.Id, x.Contract, 1
	y, e := notes.Bill(x)
	if e != api.OK {
		return 0, e
	}
	g.invoices.put(x.Id, x)
	g.schedules.put(x.Id, s)
	g.post(y)
	return x.Id, api.OK
}

// invoiceStraight invoices a contract for a term, by whose days it is earned.
func (g *Engine) invoiceStraight(k api.Contract, day, from, next int, amount int64) (uint64, api.Errno) {
	l, e := sched.Straight(amount, from, next)
	if e != api.OK {
		return 0, e
	}
	x := api.Invoice{Day: day, From: from, Next: next, Amount: amount}
	return g.invoice(k, x, api.Schedule{Kind: api.SkStraight, Slices: l})
}

func (g *Engine) sell(c api.Command) api.Reply {
	if !isDay(c.Day) || !validAmount(c.Amount) || len(c.Numbers) > api.MaxShares {
		return refuse(api.ErrArg)
	}
	if _, e := split.Split(c.Amount, c.Numbers); e != api.OK || !payable(c.Day) {
		return refuse(api.ErrArg)
	}
	k, e := g.contract(c.Id, c.Day)
	if e != api.OK {
		return refuse(e)
	}
	l, e := sched.Milestones(c.Amount, c.Numbers)
	if e != api.OK {
		return refuse(e)
	}
	x := api.Invoice{Day: c.Day, From: c.Day, Next: c.Day + 1, Amount: c.Amount}
	id, e := g.invoice(k, x, api.Schedule{Kind: api.SkMilestone, Slices: l})
	return api.Reply{E: e, Ids: []uint64{id}}
}

// credit credits an invoice, and returns the note's number, and what it gives
// back of what was paid.
func (g *Engine) credit(x api.Invoice, n int64, day int, reason string) (id uint64, back int64, e api.Errno) {
	s, _ := g.schedules.get(x.Id)
	left := sched.Left(s)
	note := api.Note{Id: g.notes.next(), Invoice: x.Id, Day: day, Amount: n, Reason: reason}
	now, y, e := notes.Write(note, x, left)
	if e != api.OK {
		return 0, 0, e
	}
	if off := min(n, left); off > 0 {
		if s, e = sched.Cut(s, off); e != api.OK {
			return 0, 0, e
		}
		g.schedules.put(x.Id, s)
	}
	back = x.Paid - now.Paid
	if e := g.takeBack(x.Id, back); e != api.OK {
		return 0, 0, e
	}
	g.notes.put(note.Id, note)
	g.invoices.put(x.Id, now)
	g.post(y)
	return note.Id, back, api.OK
}

// takeBack decreases the uses of an invoice, and what is applied of their
// payments, by n in all.
func (g *Engine) takeBack(invoice uint64, n int64) api.Errno {
	if n == 0 {
		return api.OK
	}
	var ids []uint64
	var l []api.Use
	for _, id := range g.uses.numbers() {
		if u, _ := g.uses.get(id); u.Invoice == invoice && u.Amount > 0 {
			ids, l = append(ids, id), append(l, u)
		}
	}
	taken, e := cash.Undo(l, n)
	slices.Reverse(ids) // the later ones are taken first
	slices.Reverse(l)
	for i, t := range taken {
		l[i].Amount -= t.Amount
		g.uses.put(ids[i], l[i])
		p, _ := g.payments.get(t.Payment)
		p.Applied -= t.Amount
		g.payments.put(t.Payment, p)
	}
	return e
}

// creditContract distributes a credit over a contract's invoices, and returns the
// numbers of the notes.
func (g *Engine) creditContract(contract uint64, n int64, day int, reason string) ([]uint64, api.Errno) {
	if n == 0 {
		return nil, api.OK
	}
	l := g.invoices.some(func(x api.Invoice) bool { return x.Contract == contract })
	parts, e := notes.Spread(l, n)
	if e != api.OK {
		return nil, e
	}
	var ids []uint64
	for i, part := range parts {
		if part == 0 {
			continue
		}
		id, _, e := g.credit(l[i], part, day, reason)
		if e != api.OK {
			return nil, e
		}
		ids = append(ids, id)
	}
	return ids, api.OK
}

func (g *Engine) creditInvoice(c api.Command) api.Reply {
	if !isDay(c.Day) || !validAmount(c.Amount) || len(c.Text) > api.MaxReason {
		return refuse(api.ErrArg)
	}
	x, is := g.invoices.get(c.Id)
	if !is {
		return refuse(api.ErrNone)
	}
	id, back, e := g.credit(x, c.Amount, c.Day, c.Text)
	return api.Reply{E: e, Ids: []uint64{id}, Amounts: []int64{back}}
}

func (g *Engine) pay(c api.Command) api.Reply {
	p := api.Payment{Id: g.payments.next(), Customer: c.Customer, Day: c.Day, Amount: c.Amount}
	switch {
	case cash.Check(p) != api.OK: // the customer 0 is not valid either
		return refuse(api.ErrArg)
	case !g.customers.has(c.Customer):
		return refuse(api.ErrNone)
	}
	y, e := cash.Take(p)
	if e != api.OK {
		return refuse(e)
	}
	g.payments.put(p.Id, p)
	g.post(y)
	used, left, e := g.apply(p, c.Day)
	r := api.Reply{E: e, Ids: []uint64{p.Id}, Amounts: []int64{left}}
	for _, u := range used {
		r.Ids, r.Amounts = append(r.Ids, u.Invoice), append(r.Amounts, u.Amount)
	}
	return r
}

// apply applies what is left of a payment to the invoices that wait for it, and
// returns the uses, and what is left then.
func (g *Engine) apply(p api.Payment, day int) ([]api.Use, int64, api.Errno) {
	used, e := cash.Plan(p, g.invoices.all())
	if e != api.OK {
		return nil, 0, e
	}
	for _, u := range used {
		x, _ := g.invoices.get(u.Invoice)
		var y api.Entry
		if p, x, y, e = cash.Apply(p, x, day, u.Amount); e != api.OK {
			return nil, 0, e
		}
		g.invoices.put(x.Id, x)
		g.payments.put(p.Id, p)
		g.uses.put(g.uses.next(), u)
		g.post(y)
	}
	return used, cash.Left(p), api.OK
}

// payment returns a payment, if what is asked about it is valid.
func (g *Engine) payment(id uint64, valid bool) (api.Payment, api.Errno) {
	if !valid {
		return api.Payment{}, api.ErrArg
	}
	p, is := g.payments.get(id)
	if !is {
		return api.Payment{}, api.ErrNone
	}
	return p, api.OK
}

func (g *Engine) applyPayment(c api.Command) api.Reply {
	p, e := g.payment(c.Id, isDay(c.Day))
	if e != api.OK {
		return refuse(e)
	}
	used, _, e := g.apply(p, c.Day)
	if e == api.OK && len(used) == 0 {
		e = api.ErrState
	}
	r := api.Reply{E: e}
	for _, u := range used {
		r.Ids, r.Amounts = append(r.Ids, u.Invoice), append(r.Amounts, u.Amount)
	}
	return r
}

func (g *Engine) refund(c api.Command) api.Reply {
	p, e := g.payment(c.Id, isDay(c.Day) && c.Amount >= 1)
	if e != api.OK {
		return refuse(e)
	}
	p, y, e := cash.Refund(p, c.Day, c.Amount)
	if e != api.OK {
		return refuse(e)
	}
	g.payments.put(p.Id, p)
	g.post(y)
	return api.Reply{}
}

func (g *Engine) setPolicy(c api.Command) api.Reply {
	x := g.current()
	x.policy = api.Policy{Lose: int(c.Amount)}
	for _, late := range c.Numbers {
		x.policy.Days = append(x.policy.Days, int(late))
	}
	if e := dunning.Check(x.policy); e != api.OK {
		return refuse(e)
	}
	g.rules.put(theRules, x)
	return api.Reply{}
}

func (g *Engine) dun(c api.Command) api.Reply {
	d, e := dunning.Run(g.current().policy, g.duns.all(), g.invoices.all(), c.Day)
	if e != api.OK {
		return refuse(e)
	}
	g.setDuns(d.Duns)
	r := api.Reply{Notices: d.Notices, Ids: d.Lost}
	for _, id := range d.Lost {
		x, _ := g.invoices.get(id)
		now, y, e := dunning.Lose(x, c.Day)
		if e != api.OK {
			return refuse(e)
		}
		g.invoices.put(id, now)
		g.post(y)
		r.Amounts = append(r.Amounts, now.Lost-x.Lost)
	}
	return r
}

// setDuns makes these the duns there are; those that stay as they were are not
// written anew.
func (g *Engine) setDuns(l []api.Dun) {
	for _, id := range g.duns.numbers() {
		if !slices.ContainsFunc(l, func(d api.Dun) bool { return d.Invoice == id }) {
			g.duns.drop(id)
		}
	}
	for _, d := range l {
		if was, _ := g.duns.get(d.Invoice); was != d {
			g.duns.put(d.Invoice, d)
		}
	}
}
