package chart

import (
	"math/rand"
	"slices"
	"strings"
	"testing"

	"quittance/api"
)

func account1(code, up int, class uint8) api.Account {
	return api.Account{Code: code, Up: up, Class: class, Name: "a"}
}

func do(t *testing.T, have, want api.Errno) {
	t.Helper()
	if have != want {
		t.Errorf("%d, wanted %d", have, want)
	}
}

func TestP19_1(t *testing.T) {
	c := New()
	if len(c.All()) != 0 {
		t.Error(c.All())
	}
	do(t, c.Add(account1(1, 0, api.ClAsset)), api.OK)
	do(t, c.Add(account1(2, 1, api.ClAsset)), api.OK)
	do(t, c.Add(account1(3, 2, api.ClIncome)), api.ErrState)
	do(t, c.Shut(1), api.ErrState)
	do(t, c.Shut(2), api.OK)
	do(t, c.Shut(2), api.ErrState)
	do(t, c.Add(account1(3, 2, api.ClAsset)), api.ErrState)
	do(t, c.Shut(1), api.OK)
	do(t, c.Shut(1), api.ErrState)
	do(t, c.Shut(9), api.ErrNone)
	do(t, c.Add(account1(4, 1, api.ClAsset)), api.ErrState)
	do(t, c.Add(account1(2, 0, api.ClAsset)), api.ErrThere)
	do(t, c.Add(account1(2, 9, api.ClAsset)), api.ErrThere)
	do(t, c.Add(account1(5, 9, api.ClAsset)), api.ErrNone)
	do(t, c.Add(account1(5, 5, api.ClAsset)), api.ErrNone)
	do(t, c.Add(account1(5, -1, api.ClAsset)), api.ErrNone)
	for _, a := range []api.Account{
		account1(0, 0, api.ClAsset), account1(-1, 0, api.ClAsset), account1(api.MaxCode+1, 0, api.ClAsset), account1(5, 9, 0), account1(5, 0, 6), account1(5, 0, 255),
		{Code: 1, Class: api.ClAsset}, {Code: 5, Class: api.ClAsset, Name: strings.Repeat("x", 61)}, {Code: 1, Class: api.ClAsset, Name: "a", Shut: true},
	} {
		do(t, c.Add(a), api.ErrArg)
	}
	do(t, c.Add(api.Account{Code: api.MaxCode, Class: api.ClEquity, Name: strings.Repeat("x", 60)}), api.OK)
	if len(c.All()) != 3 {
		t.Error(c.All())
	}
}

func TestP19_1Depth(t *testing.T) {
	c := New()
	for i := 1; i <= api.MaxDepth; i++ {
		do(t, c.Add(account1(i, i-1, api.ClExpense)), api.OK)
	}
	do(t, c.Add(account1(9, 8, api.ClExpense)), api.ErrState)
	do(t, c.Add(account1(9, 7, api.ClExpense)), api.OK)
	if l := c.Under(7); !slices.Equal(l, []int{7, 8, 9}) {
		t.Error(l)
	}
}

func TestP19_2(t *testing.T) {
	c := New()
	for _, a := range []api.Account{account1(50, 0, api.ClAsset), account1(7, 50, api.ClAsset), account1(60, 7, api.ClAsset), account1(5, 0, api.ClIncome)} {
		do(t, c.Add(a), api.OK)
	}
	do(t, c.Shut(60), api.OK)
	shut := account1(60, 7, api.ClAsset)
	shut.Shut = true
	if a, e := c.Get(60); a != shut || e != api.OK {
		t.Error(a, e)
	}
	for _, code := range []int{0, 1, -1, 1 << 62} {
		if a, e := c.Get(code); a != (api.Account{}) || e != api.ErrNone {
			t.Error(a, e)
		}
		if len(c.Under(code)) != 0 || c.Leaf(code) {
			t.Error(code)
		}
	}
	l := c.All()
	if want := []api.Account{account1(5, 0, api.ClIncome), account1(7, 50, api.ClAsset), account1(50, 0, api.ClAsset), shut}; !slices.Equal(l, want) {
		t.Error(l)
	}
	l[0].Name = "changed"
	if a, _ := c.Get(5); a.Name != "a" {
		t.Error(a)
	}
	for _, x := range []struct {
		code  int
		under []int
		leaf  bool
	}{{50, []int{7, 50, 60}, false}, {7, []int{7, 60}, false}, {60, []int{60}, true}, {5, []int{5}, true}} {
		if l := c.Under(x.code); !slices.Equal(l, x.under) || c.Leaf(x.code) != x.leaf {
			t.Error(x, l)
		}
	}
	for class, want := range []int{0, 1, -1, -1, 1, -1, 0} {
		if Side(uint8(class)) != want {
			t.Error(class)
		}
	}
	if Side(255) != 0 {
		t.Error(255)
	}
}

func TestP19_2Nil(t *testing.T) {
	for _, c := range []*Chart{nil, {}} {
		do(t, c.Add(api.Account{}), api.ErrNil)
		do(t, c.Add(account1(1, 0, api.ClAsset)), api.ErrNil)
		do(t, c.Shut(1), api.ErrNil)
		a, e := c.Get(1)
		do(t, e, api.ErrNil)
		if a != (api.Account{}) || len(c.All()) != 0 || len(c.Under(1)) != 0 || c.Leaf(1) {
			t.Error("something of nothing")
		}
	}
}

func TestP19_3(t *testing.T) {
	want := []api.Account{
		{Code: 1100, Class: 1, Name: "Cash"}, {Code: 1200, Class: 1, Name: "Receivable"}, {Code: 2100, Class: 2, Name: "Deferred"},
		{Code: 2200, Class: 2, Name: "Unapplied"}, {Code: 3100, Class: 3, Name: "Revenue"}, {Code: 4100, Class: 4, Name: "Lost"},
	}
	for range 2 {
		l := Standard()
		if !slices.Equal(l, want) {
			t.Error(l)
		}
		l[0].Name = "changed"
	}
}

func TestP19_4(t *testing.T) {
	r := rand.New(rand.NewSource(32))
	for range 50 {
		c := New()
		for range 300 {
			if r.Intn(4) == 0 {
				c.Shut(1 + r.Intn(60))
			} else {
				c.Add(account1(1+r.Intn(60), r.Intn(60), uint8(1+r.Intn(2))))
			}
		}
		for _, a := range c.All() {
			checkUp(t, c, a)
			want := []int{a.Code}
			for _, b := range c.All() {
				if b.Up == a.Code {
					want = append(want, c.Under(b.Code)...)
				}
			}
			slices.Sort(want)
			if l := c.Under(a.Code); !slices.Equal(l, want) || c.Leaf(a.Code) != (len(l) == 1) {
				t.Fatal(a, l, want)
			}
		}
	}
}

// checkUp goes from an account up to the one that is under no other.
func checkUp(t *testing.T, c *Chart, a api.Account) {
	t.Helper()
	depth := 1
	for b := a; b.Up != 0; depth++ {
		up, e := c.Get(b.Up)
		if e != api.OK || up.Class != b.Class || up.Shut && !b.Shut || depth >= api.MaxDepth {
			t.Fatal(a, b, up, e)
		}
		b = up
	}
}

func TestP19_5(t *testing.T) {
	c := New()
	for _, want := range []api.Errno{api.OK, api.ErrThere} {
		for _, a := range Standard() {
			do(t, c.Add(a), want)
		}
	}
	if !slices.Equal(c.All(), Standard()) {
		t.Error(c.All())
	}
}
