package engine

import (
	"quittance/api"
	"quittance/plans"
	"quittance/subs"
)

const (
	firstDay = 1
	term     = 30      // days until an invoice is due
	limit    = 1 << 62 // what amounts are below
)

func isDay(day int) bool { return day >= firstDay && day <= api.MaxDay }

func isMonth(month int) bool { return month >= 1 && month <= api.MaxMonth }

// payable reports whether there is a day on which an invoice of a day is due.
func payable(day int) bool { return isDay(day) && isDay(day+term) }

// validAmount reports whether an amount is from 1 on, and below the limit.
func validAmount(n int64) bool { return n >= 1 && n < limit }

// command is how one is executed, and whether it changes the ledger.
type command struct {
	do      func(*Engine, api.Command) api.Reply
	changes bool
}

// commands returns all commands by their numbers.
func commands() [31]command {
	return [31]command{
		1:  {(*Engine).addPlan, true},
		2:  {(*Engine).reprice, true},
		3:  {(*Engine).retire, true},
		4:  {(*Engine).addCustomer, true},
		5:  {(*Engine).subscribe, true},
		6:  {(*Engine).bill, true},
		7:  {(*Engine).changePlan, true},
		8:  {(*Engine).cancel, true},
		9:  {(*Engine).pay, true},
		10: {(*Engine).applyPayment, true},
		11: {(*Engine).refund, true},
		12: {(*Engine).creditInvoice, true},
		13: {(*Engine).setPolicy, true},
		14: {(*Engine).dun, true},
		15: {(*Engine).sell, true},
		16: {(*Engine).reach, true},
		17: {(*Engine).recognize, true},
		18: {(*Engine).closeMonth, true},
		21: {(*Engine).balance, false},
		22: {(*Engine).trial, false},
		23: {(*Engine).showContract, false},
		24: {(*Engine).showInvoice, false},
		25: {(*Engine).showPayment, false},
		26: {(*Engine).ages, false},
		27: {(*Engine).waterfall, false},
		28: {(*Engine).price, false},
		29: {(*Engine).sums, false},
		30: {(*Engine).save, false},
	}
}

// catalog returns one with a plan alone, if there is such a plan.
func (g *Engine) catalog(id uint64) *plans.Catalog {
	c := plans.New()
	if p, is := g.plans.get(id); is {
		c.Add(p)
	}
	return c
}

// setPlan does something with a catalog that has a plan, or not, and notes the
// plan as it is then.
func (g *Engine) setPlan(id uint64, do func(*plans.Catalog) api.Errno) api.Reply {
	c := g.catalog(id)
	if e := do(c); e != api.OK {
		return refuse(e)
	}
	p, e := c.Get(id)
	g.plans.put(id, p)
	return refuse(e)
}

func (g *Engine) addPlan(c api.Command) api.Reply {
	return g.setPlan(c.Id, func(x *plans.Catalog) api.Errno {
		return x.Add(api.Plan{Id: c.Id, Name: c.Text, Every: c.At, Prices: []api.Price{{From: c.Day, Amount: c.Amount}}})
	})
}

func (g *Engine) reprice(c api.Command) api.Reply {
	return g.setPlan(c.Id, func(x *plans.Catalog) api.Errno {
		return x.Reprice(c.Id, api.Price{From: c.Day, Amount: c.Amount})
	})
}

func (g *Engine) retire(c api.Command) api.Reply {
	return g.setPlan(c.Id, func(x *plans.Catalog) api.Errno { return x.Retire(c.Id, c.Day) })
}

func (g *Engine) addCustomer(c api.Command) api.Reply {
	x := api.Customer{Id: c.Id, Name: c.Text}
	switch {
	case !validCustomer(x):
		return refuse(api.ErrArg)
	case g.customers.has(c.Id):
		return refuse(api.ErrThere)
	}
	g.customers.put(c.Id, x)
	return api.Reply{}
}

// offer returns a plan that is sold on a day, and its price then.
func (g *Engine) offer(plan uint64, day int) (p api.Plan, price int64, e api.Errno) {
	c := g.catalog(plan)
	p, e = c.Get(plan)
	if e != api.OK {
		return api.Plan{}, 0, e
	}
	if !c.Sold(plan, day) {
		return api.Plan{}, 0, api.ErrState
	}
	price, e = c.Price(plan, day)
	return p, price, e
}

func (g *Engine) subscribe(c api.Command) api.Reply {
	switch {
	case c.Id == 0 || !isDay(c.Day) || c.At < 1 || c.At > 31:
		return refuse(api.ErrArg)
	case g.contracts.has(c.Id):
		return refuse(api.ErrThere)
	case !g.customers.has(c.Customer):
		return refuse(api.ErrNone)
	}
	p, price, e := g.offer(c.Plan, c.Day)
	if e != api.OK {
		return refuse(e)
	}
	cycle := api.Cycle{Start: c.Day, Anchor: c.At, Every: p.Every}
	g.contracts.put(c.Id, api.Contract{S: api.Sub{Id: c.Id, Customer: c.Customer, Plan: c.Plan, Cycle: cycle, Price: price}})
	return api.Reply{}
}

// contract returns a contract, if the day is one.
func (g *Engine) contract(id uint64, day int) (api.Contract, api.Errno) {
	if !isDay(day) {
		return api.Contract{}, api.ErrArg
	}
	k, is := g.contracts.get(id)
	if !is {
		return api.Contract{}, api.ErrNone
	}
	return k, api.OK
}

func (g *Engine) bill(c api.Command) api.Reply {
	k, e := g.contract(c.Id, c.Day)
	if e != api.OK {
		return refuse(e)
	}
	l, now, e := subs.Due(k.S, c.Day, 1)
	switch {
	case e != api.OK:
		return refuse(e)
	case len(l) == 0:
		return refuse(api.ErrState)
	case !payable(c.Day):
		return refuse(api.ErrArg)
	}
	k.S = now
	g.contracts.put(c.Id, k)
	b := l[0]
	id, e := g.invoiceStraight(k, c.Day, b.From, b.Next, b.Amount)
	if e != api.OK {
		return refuse(e)
	}
	return api.Reply{Ids: []uint64{id}, Amounts: []int64{b.Amount}}
}

func (g *Engine) changePlan(c api.Command) api.Reply {
	k, e := g.contract(c.Id, c.Day)
	if e != api.OK {
		return refuse(e)
	}
	p, price, e := g.offer(c.Plan, c.Day)
	if e != api.OK {
		return refuse(e)
	}
	if p.Every != k.S.Cycle.Every {
		return refuse(api.ErrState)
	}
	now, x, e := subs.Change(k.S, c.Day, api.Offer{Plan: c.Plan, Price: price})
	if e != api.OK {
		return refuse(e)
	}
	if !payable(c.Day) {
		return refuse(api.ErrArg)
	}
	k.S = now
	g.contracts.put(c.Id, k)
	ids, e := g.creditContract(c.Id, x.Credit, c.Day, "change")
	if e == api.OK && x.Charge > 0 {
		var id uint64
		id, e = g.invoiceStraight(k, c.Day, x.From, x.Next, x.Charge)
		ids = append(ids, id)
	}
	return api.Reply{E: e, Ids: ids, Amounts: []int64{x.Credit, x.Charge}}
}

func (g *Engine) cancel(c api.Command) api.Reply {
	k, e := g.contract(c.Id, c.Day)
	if e != api.OK {
		return refuse(e)
	}
	now, x, e := subs.Cancel(k.S, c.Day, c.Now)
	if e != api.OK {
		return refuse(e)
	}
	k.S = now
	g.contracts.put(c.Id, k)
	ids, e := g.creditContract(c.Id, x.Credit, c.Day, "cancel")
	return api.Reply{E: e, Ids: ids, Amounts: []int64{x.Credit, int64(now.Ends)}}
}
