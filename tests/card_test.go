package tests

import (
	"testing"

	"loop.example/g03310/impl"
)

// someCards are valid, with no stamps, the most ones and the most free loaves.
func someCards() []impl.Card {
	var list []impl.Card
	for stamps := range 10 {
		for _, free := range []int{0, 1, 2, 17, 500, 899, 900, 901, 989, 990, 998, 999, 1000} {
			list = append(list, impl.Card{Stamps: stamps, Free: free})
		}
	}
	return list
}

// badCards have a number that is not in its range.
func badCards() []impl.Card {
	list := []impl.Card{{Stamps: 10}, {Stamps: 20, Free: 1}, {Stamps: -10, Free: 1}}
	for _, n := range outside(0, 9) {
		list = append(list, impl.Card{Stamps: n}, impl.Card{Stamps: n, Free: 5}, impl.Card{Stamps: n, Free: n})
	}
	for _, n := range outside(0, 1000) {
		list = append(list, impl.Card{Free: n}, impl.Card{Stamps: 5, Free: n}, impl.Card{Stamps: -n, Free: n})
	}
	return list
}

// stampedOneByOne gives a stamp for each loaf, and takes ten of them for a free
// one as soon as they are there.
func stampedOneByOne(c impl.Card, n int) impl.Card {
	for range n {
		c.Stamps++
		if c.Stamps == 10 {
			c.Stamps = 0
			c.Free++
		}
	}
	return c
}

func TestCardOk(t *testing.T) {
	for _, c := range someCards() {
		if !impl.CardOk(c) {
			t.Errorf("CardOk(%v) = false", c)
		}
	}
	good := impl.Card{Stamps: 1, Free: 1}
	for _, c := range badCards() {
		if impl.CardOk(c) {
			t.Errorf("CardOk(%v) = true", c)
		}
		for _, n := range []int{0, 1, 10, 1000} {
			if got, ok := impl.BuyLoaves(c, n); ok || got != c {
				t.Errorf("BuyLoaves(%v, %d) = %v, %v; want it unchanged, false", c, n, got, ok)
			}
		}
		if got, ok := impl.UseFree(c); ok || got != c {
			t.Errorf("UseFree(%v) = %v, %v; want it unchanged, false", c, got, ok)
		}
		if got := impl.LoavesUntilFree(c); got != -1 {
			t.Errorf("LoavesUntilFree(%v) = %d, want -1", c, got)
		}
		for _, pair := range [][2]impl.Card{{c, good}, {good, c}, {c, c}, {c, {}}, {{}, c}, {c, {Stamps: -c.Stamps, Free: -c.Free}}} {
			if got, ok := impl.JoinCards(pair[0], pair[1]); ok || got != (impl.Card{}) {
				t.Errorf("JoinCards(%v) = %v, %v; want the zero Card, false", pair, got, ok)
			}
		}
	}
}

func TestBuyLoaves(t *testing.T) {
	cases := []struct {
		card impl.Card
		n    int
		want impl.Card
	}{
		{impl.Card{Stamps: 7, Free: 1}, 15, impl.Card{Stamps: 2, Free: 3}}, {impl.Card{}, 0, impl.Card{}}, {impl.Card{}, 9, impl.Card{Stamps: 9}}, {impl.Card{Stamps: 9}, 1, impl.Card{Free: 1}}, {impl.Card{Stamps: 9}, 0, impl.Card{Stamps: 9}}, {impl.Card{Stamps: 1}, 8, impl.Card{Stamps: 9}}, {impl.Card{Stamps: 1}, 9, impl.Card{Free: 1}},
		{impl.Card{}, 1000, impl.Card{Free: 100}}, {impl.Card{Free: 900}, 1000, impl.Card{Free: 1000}}, {impl.Card{Stamps: 9, Free: 900}, 1000, impl.Card{Stamps: 9, Free: 1000}}, {impl.Card{Free: 1000}, 9, impl.Card{Stamps: 9, Free: 1000}}, {impl.Card{Stamps: 3, Free: 999}, 16, impl.Card{Stamps: 9, Free: 1000}}, {impl.Card{Stamps: 9, Free: 999}, 1, impl.Card{Free: 1000}},
	}
	for _, c := range cases {
		if got, ok := impl.BuyLoaves(c.card, c.n); !ok || got != c.want {
			t.Errorf("BuyLoaves(%v, %d) = %v, %v; want %v, true", c.card, c.n, got, ok, c.want)
		}
	}
	tooMany := []struct {
		card impl.Card
		n    int
	}{
		{impl.Card{Free: 1000}, 10}, {impl.Card{Stamps: 9, Free: 1000}, 1}, {impl.Card{Free: 901}, 1000}, {impl.Card{Stamps: 1, Free: 901}, 999}, {impl.Card{Stamps: 3, Free: 999}, 17}, {impl.Card{Free: 1000}, 1000},
	}
	for _, c := range tooMany {
		if got, ok := impl.BuyLoaves(c.card, c.n); ok || got != c.card {
			t.Errorf("BuyLoaves(%v, %d) = %v, %v; want it unchanged, false", c.card, c.n, got, ok)
		}
	}
	for _, c := range someCards() {
		for _, n := range outside(0, 1000) {
			if got, ok := impl.BuyLoaves(c, n); ok || got != c {
				t.Errorf("BuyLoaves(%v, %d) = %v, %v; want it unchanged, false", c, n, got, ok)
			}
		}
	}
}

// Ten stamps at once are one loaf, and all the others stay.
func TestTenStampsAtOnce(t *testing.T) {
	for stamps := range 10 {
		for _, times := range []int{1, 2, 10, 100} {
			c := impl.Card{Stamps: stamps, Free: 3}
			want := impl.Card{Stamps: stamps, Free: 3 + times}
			if got, ok := impl.BuyLoaves(c, 10*times); !ok || got != want {
				t.Errorf("BuyLoaves(%v, %d) = %v, %v; want %v, true", c, 10*times, got, ok, want)
			}
		}
		// With the loaves until the free one, there are just ten stamps.
		c := impl.Card{Stamps: stamps}
		if got, ok := impl.BuyLoaves(c, impl.LoavesUntilFree(c)); !ok || got != (impl.Card{Free: 1}) {
			t.Errorf("BuyLoaves(%v) until the free one = %v, %v", c, got, ok)
		}
		other := impl.Card{Stamps: 10 - stamps}
		if stamps > 0 {
			if got, ok := impl.JoinCards(c, other); !ok || got != (impl.Card{Free: 1}) {
				t.Errorf("JoinCards(%v, %v) = %v, %v; want one free loaf", c, other, got, ok)
			}
		}
	}
	if got := impl.LoavesFor(10, 1); got != 11 {
		t.Errorf("LoavesFor(10, 1) = %d, want 11", got)
	}
}

// Stamps are never lost.
func TestBuyLoavesOneByOne(t *testing.T) {
	for _, c := range someCards() {
		for _, n := range []int{0, 1, 2, 3, 4, 5, 6, 7, 8, 9, 10, 11, 19, 20, 21, 95, 99, 100, 101, 990, 991, 999, 1000} {
			want := stampedOneByOne(c, n)
			wantOk := want.Free <= 1000
			if !wantOk {
				want = c
			}
			if got, ok := impl.BuyLoaves(c, n); ok != wantOk || got != want {
				t.Errorf("BuyLoaves(%v, %d) = %v, %v; want %v, %v", c, n, got, ok, want, wantOk)
			}
		}
	}
}

func TestUseFree(t *testing.T) {
	for _, c := range someCards() {
		got, ok := impl.UseFree(c)
		if c.Free == 0 {
			if ok || got != c {
				t.Errorf("UseFree(%v) = %v, %v; want it unchanged, false", c, got, ok)
			}
			continue
		}
		if want := (impl.Card{Stamps: c.Stamps, Free: c.Free - 1}); !ok || got != want {
			t.Errorf("UseFree(%v) = %v, %v; want %v, true", c, got, ok, want)
		}
	}
}

func TestLoavesUntilFree(t *testing.T) {
	for _, c := range someCards() {
		got := impl.LoavesUntilFree(c)
		if got != 10-c.Stamps {
			t.Errorf("LoavesUntilFree(%v) = %d, want %d", c, got, 10-c.Stamps)
		}
		if stampedOneByOne(c, got).Free != c.Free+1 || stampedOneByOne(c, got-1).Free != c.Free {
			t.Errorf("LoavesUntilFree(%v) = %d is not the next free one", c, got)
		}
	}
}

func TestJoinCards(t *testing.T) {
	cases := []struct{ a, b, want impl.Card }{
		{impl.Card{}, impl.Card{}, impl.Card{}}, {impl.Card{Stamps: 7, Free: 1}, impl.Card{Stamps: 5}, impl.Card{Stamps: 2, Free: 2}}, {impl.Card{Stamps: 4}, impl.Card{Stamps: 5}, impl.Card{Stamps: 9}}, {impl.Card{Stamps: 9, Free: 3}, impl.Card{Stamps: 9, Free: 4}, impl.Card{Stamps: 8, Free: 8}}, {impl.Card{Free: 400}, impl.Card{Free: 600}, impl.Card{Free: 1000}}, {impl.Card{Stamps: 4, Free: 400}, impl.Card{Stamps: 5, Free: 600}, impl.Card{Stamps: 9, Free: 1000}}, {impl.Card{Stamps: 5, Free: 400}, impl.Card{Stamps: 5, Free: 599}, impl.Card{Free: 1000}},
	}
	for _, c := range cases {
		if got, ok := impl.JoinCards(c.a, c.b); !ok || got != c.want {
			t.Errorf("JoinCards(%v, %v) = %v, %v; want %v, true", c.a, c.b, got, ok, c.want)
		}
	}
	for _, pair := range [][2]impl.Card{{{Free: 401}, {Free: 600}}, {{Stamps: 5, Free: 400}, {Stamps: 5, Free: 600}}, {{Stamps: 9, Free: 1000}, {Stamps: 1}}, {{Free: 1000}, {Free: 1000}}, {{Free: 1}, {Free: 1000}}} {
		if got, ok := impl.JoinCards(pair[0], pair[1]); ok || got != (impl.Card{}) {
			t.Errorf("JoinCards(%v) = %v, %v; want the zero Card, false", pair, got, ok)
		}
	}
	for _, a := range someCards() {
		for _, b := range someCards() {
			want := stampedOneByOne(a, b.Stamps)
			want.Free += b.Free
			wantOk := want.Free <= 1000
			if !wantOk {
				want = impl.Card{}
			}
			if got, ok := impl.JoinCards(a, b); ok != wantOk || got != want {
				t.Errorf("JoinCards(%v, %v) = %v, %v; want %v, %v", a, b, got, ok, want, wantOk)
			}
		}
	}
}

// boughtOneByOne buys loaves as long as there is money, and takes each free loaf
// at once.
func boughtOneByOne(money int, price int) int {
	loaves, stamps := 0, 0
	for ; money >= price; money -= price {
		loaves++
		stamps++
		if stamps == 10 {
			stamps = 0
			loaves++
		}
	}
	return loaves
}

func TestLoavesFor(t *testing.T) {
	cases := []struct{ money, price, want int }{
		{350, 10, 38}, {0, 1, 0}, {9, 10, 0}, {10, 10, 1}, {19, 10, 1}, {99, 10, 9}, {100, 10, 11}, {190, 10, 20}, {200, 10, 22}, {1000, 10, 110}, {100000, 1, 110000}, {100000, 1000, 110}, {99999, 1000, 108}, {999, 1000, 0}, {0, 1000, 0},
	}
	for _, c := range cases {
		if got := impl.LoavesFor(c.money, c.price); got != c.want {
			t.Errorf("LoavesFor(%d, %d) = %d, want %d", c.money, c.price, got, c.want)
		}
	}
	for _, price := range []int{1, 2, 3, 7, 10, 99, 999, 1000} {
		for money := 0; money <= 100000; money += 1 + money/7 {
			if got, want := impl.LoavesFor(money, price), boughtOneByOne(money, price); got != want {
				t.Errorf("LoavesFor(%d, %d) = %d, want %d", money, price, got, want)
			}
		}
		for _, n := range outside(0, 100000) {
			if got := impl.LoavesFor(n, price); got != -1 {
				t.Errorf("LoavesFor(%d, %d) = %d, want -1", n, price, got)
			}
		}
	}
	for _, money := range []int{0, 350, 100000} {
		for _, n := range outside(1, 1000) {
			if got := impl.LoavesFor(money, n); got != -1 {
				t.Errorf("LoavesFor(%d, %d) = %d, want -1", money, n, got)
			}
		}
	}
}
