package plans

import (
	"math/rand"
	"reflect"
	"strings"
	"testing"

	"quittance/api"
)

func price(from int, amount int64) api.Price { return api.Price{From: from, Amount: amount} }

func plan(id uint64) api.Plan {
	return api.Plan{Id: id, Name: "a", Every: 1, Prices: []api.Price{price(10, 500)}}
}

func with(change func(*api.Plan)) api.Plan {
	p := plan(1)
	change(&p)
	return p
}

func do(t *testing.T, have, want api.Errno) {
	t.Helper()
	if have != want {
		t.Errorf("%d, wanted %d", have, want)
	}
}

// prices are many, from day 1 on.
func prices(many int) []api.Price {
	var l []api.Price
	for i := range many {
		l = append(l, price(1+i, int64(i)))
	}
	return l
}

func TestP22_1(t *testing.T) {
	for _, p := range []api.Plan{plan(1), plan(1<<64 - 1),
		with(func(p *api.Plan) {
			p.Name, p.Every, p.Prices = strings.Repeat("x", 60), api.MaxEvery, prices(api.MaxPrices)
		}),
		with(func(p *api.Plan) { p.Retired = 11 }), with(func(p *api.Plan) { p.Prices = []api.Price{price(1, 0), price(api.MaxDay, limit-1)} }),
	} {
		do(t, Check(p), api.OK)
	}
	c := New()
	if len(c.All()) != 0 {
		t.Error(c.All())
	}
	do(t, c.Add(plan(1)), api.OK)
	do(t, c.Add(plan(1)), api.ErrThere)
	do(t, c.Add(plan(2)), api.OK)
	for _, p := range []api.Plan{{}, plan(0),
		with(func(p *api.Plan) { p.Name = "" }), with(func(p *api.Plan) { p.Name = strings.Repeat("x", 61) }), with(func(p *api.Plan) { p.Every = 0 }), with(func(p *api.Plan) { p.Every = 121 }),
		with(func(p *api.Plan) { p.Prices = nil }), with(func(p *api.Plan) { p.Prices, p.Retired = nil, 50 }), with(func(p *api.Plan) { p.Prices = prices(101) }),
		with(func(p *api.Plan) { p.Prices[0].From = 0 }), with(func(p *api.Plan) { p.Prices[0].From = api.MaxDay + 1 }), with(func(p *api.Plan) { p.Prices[0].Amount = -1 }),
		with(func(p *api.Plan) { p.Prices[0].Amount = limit }), with(func(p *api.Plan) { p.Prices = []api.Price{price(5, 1), price(5, 1)} }), with(func(p *api.Plan) { p.Prices = []api.Price{price(5, 1), price(4, 1)} }),
		with(func(p *api.Plan) { p.Retired = 10 }), with(func(p *api.Plan) { p.Retired = -1 }), with(func(p *api.Plan) { p.Retired = api.MaxDay + 1 }),
	} {
		do(t, Check(p), api.ErrArg)
		do(t, c.Add(p), api.ErrArg)
	}
	if len(c.All()) != 2 {
		t.Error(c.All())
	}
}

func TestP22_2(t *testing.T) {
	c := New()
	do(t, c.Add(plan(1)), api.OK)
	do(t, c.Reprice(1, price(20, 700)), api.OK)
	for _, x := range []api.Price{price(0, 1), price(api.MaxDay+1, 1), price(30, -1), price(30, limit)} {
		do(t, c.Reprice(1, x), api.ErrArg)
		do(t, c.Reprice(9, x), api.ErrArg)
	}
	do(t, c.Reprice(9, price(30, 1)), api.ErrNone)
	do(t, c.Reprice(0, price(30, 1)), api.ErrNone)
	do(t, c.Reprice(1, price(20, 800)), api.ErrState)
	do(t, c.Reprice(1, price(19, 800)), api.ErrState)
	for _, day := range []int{0, -1, api.MaxDay + 1} {
		do(t, c.Retire(9, day), api.ErrArg)
	}
	do(t, c.Retire(9, 30), api.ErrNone)
	do(t, c.Retire(1, 20), api.ErrState)
	do(t, c.Retire(1, 30), api.OK)
	do(t, c.Retire(1, 31), api.ErrState)
	do(t, c.Reprice(1, price(30, 1)), api.ErrState)
	do(t, c.Reprice(1, price(31, 1)), api.ErrState)
	do(t, c.Reprice(1, price(25, 1)), api.OK)
	want := api.Plan{Id: 1, Name: "a", Every: 1, Prices: []api.Price{price(10, 500), price(20, 700), price(25, 1)}, Retired: 30}
	if p, e := c.Get(1); !reflect.DeepEqual(p, want) || e != api.OK {
		t.Error(p, e)
	}
	full := plan(2)
	full.Prices = prices(99)
	do(t, c.Add(full), api.OK)
	do(t, c.Reprice(2, price(1000, 1)), api.OK)
	do(t, c.Reprice(2, price(1000, 1)), api.ErrState)
	do(t, c.Reprice(2, price(1001, 1)), api.ErrFull)
	do(t, c.Retire(2, 1001), api.OK)
}

func TestP22_3(t *testing.T) {
	c := New()
	for _, id := range []uint64{5, 1 << 63, 1, 7} {
		given := plan(id)
		do(t, c.Add(given), api.OK)
		given.Prices[0].Amount = 9
	}
	do(t, c.Reprice(1, price(20, 700)), api.OK)
	do(t, c.Retire(1, 30), api.OK)
	var ids []uint64
	l := c.All()
	for _, p := range l {
		ids = append(ids, p.Id)
		p.Prices[0].Amount = 9
	}
	if !reflect.DeepEqual(ids, []uint64{1, 5, 7, 1 << 63}) {
		t.Error(ids)
	}
	p, _ := c.Get(5)
	p.Prices[0].Amount = 9
	_ = append(p.Prices, price(11, 1))
	for _, x := range []struct {
		id     uint64
		day    int
		amount int64
		e      api.Errno
		sold   bool
	}{
		{1, 9, 0, api.ErrState, false}, {1, 10, 500, api.OK, true}, {1, 19, 500, api.OK, true}, {1, 20, 700, api.OK, true}, {1, 29, 700, api.OK, true}, {1, 30, 700, api.OK, false},
		{5, api.MaxDay, 500, api.OK, true}, {2, 20, 0, api.ErrNone, false}, {0, 20, 0, api.ErrNone, false},
		{1, 0, 0, api.ErrArg, false}, {5, api.MaxDay + 1, 0, api.ErrArg, false}, {2, -1, 0, api.ErrArg, false},
	} {
		if n, e := c.Price(x.id, x.day); n != x.amount || e != x.e || c.Sold(x.id, x.day) != x.sold {
			t.Error(x, n, e)
		}
	}
	if p, e := c.Get(2); !reflect.DeepEqual(p, api.Plan{}) || e != api.ErrNone {
		t.Error(p, e)
	}
	for _, c := range []*Catalog{nil, {}} {
		do(t, c.Add(api.Plan{}), api.ErrNil)
		do(t, c.Reprice(0, api.Price{}), api.ErrNil)
		do(t, c.Retire(0, 0), api.ErrNil)
		p, e := c.Get(0)
		n, e2 := c.Price(0, 0)
		if !reflect.DeepEqual(p, api.Plan{}) || e != api.ErrNil || n != 0 || e2 != api.ErrNil || len(c.All()) != 0 || c.Sold(1, 1) {
			t.Error(p, e, e2)
		}
	}
}

func TestP22_4and5(t *testing.T) {
	r := rand.New(rand.NewSource(38))
	for range 200 {
		c := New()
		do(t, c.Add(plan(1)), api.OK)
		for range 40 {
			before := map[int]int64{}
			for day := range 60 {
				if n, e := c.Price(1, day); e == api.OK {
					before[day] = n
				}
			}
			at := r.Intn(60)
			if r.Intn(10) == 0 {
				c.Retire(1, at)
				at = 60
			} else {
				c.Reprice(1, price(at, r.Int63n(1000)))
			}
			for day, n := range before {
				if now, e := c.Price(1, day); (now != n || e != api.OK) && day < at {
					t.Fatal(day, n, now, e)
				}
			}
			if p, _ := c.Get(1); Check(p) != api.OK {
				t.Fatal(p)
			}
		}
	}
}
