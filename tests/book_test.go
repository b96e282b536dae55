package tests

import (
	"math"
	"math/rand/v2"
	"slices"
	"testing"

	"loop.example/g03310/impl"
)

// bookWith enters events, all of which have to succeed.
func bookWith(t *testing.T, events ...impl.Event) impl.Book {
	t.Helper()
	b := impl.Book{}
	for _, e := range events {
		next, ok := impl.Enter(b, e)
		if !ok {
			t.Fatalf("Enter(%v, %v) = false", b, e)
		}
		b = next
	}
	return b
}

// sameBook reports whether a is the book b, in memory of its own.
func sameBook(a impl.Book, b impl.Book) bool {
	if !slices.Equal(a.Events, b.Events) || a.Rack != b.Rack || a.Baked != b.Baked || a.Sold != b.Sold || a.Thrown != b.Thrown {
		return false
	}
	return len(a.Events) == 0 || &a.Events[0] != &b.Events[0]
}

// someEvents are what can happen on a few days.
func someEvents() []impl.Event {
	return []impl.Event{{Kind: impl.EvBake, Loaves: 20}, {Kind: impl.EvSell, Loaves: 12}, {Kind: impl.EvMorning}, {Kind: impl.EvBake, Loaves: 5}, {Kind: impl.EvCheap, Loaves: 3}, {Kind: impl.EvMorning}, {Kind: impl.EvCheap, Loaves: 2}, {Kind: impl.EvSell, Loaves: 1}, {Kind: impl.EvMorning}, {Kind: impl.EvSell}}
}

// shelfByHand has a loaf for each entry, which is its age.
type shelfByHand struct {
	ages                []int
	baked, sold, thrown int
}

// takeFrom sells n loaves, of the first age as long as there are some and then
// of the second one, and reports whether there were enough.
func (s *shelfByHand) takeFrom(n int, first int, second int) bool {
	for range n {
		i := slices.Index(s.ages, first)
		if i < 0 {
			i = slices.Index(s.ages, second)
		}
		if i < 0 {
			return false
		}
		s.ages = slices.Delete(s.ages, i, i+1)
		s.sold++
	}
	return true
}

// happen reports whether an event is possible.
func (s *shelfByHand) happen(e impl.Event) bool {
	switch e.Kind {
	case impl.EvBake:
		s.ages = append(s.ages, repeated(e.Loaves, 0)...)
		s.baked += e.Loaves
	case impl.EvSell:
		return s.takeFrom(e.Loaves, 0, 1)
	case impl.EvCheap:
		return s.takeFrom(e.Loaves, 2, 1)
	case impl.EvMorning:
		var kept []int
		for _, age := range s.ages {
			if age == 2 {
				s.thrown++
				continue
			}
			kept = append(kept, age+1)
		}
		s.ages = kept
	}
	return true
}

func (s *shelfByHand) rack() impl.Rack {
	var counts [3]int
	for _, age := range s.ages {
		counts[age]++
	}
	return impl.Rack{Fresh: counts[0], Day: counts[1], Old: counts[2]}
}

func (s *shelfByHand) copied() *shelfByHand {
	next := *s
	next.ages = slices.Clone(s.ages)
	return &next
}

func TestEventOn(t *testing.T) {
	r := impl.Rack{Fresh: 10, Day: 4, Old: 3}
	cases := []struct {
		event               impl.Event
		rack                impl.Rack
		baked, sold, thrown int
	}{
		{impl.Event{Kind: impl.EvBake, Loaves: 5}, impl.Rack{Fresh: 15, Day: 4, Old: 3}, 5, 0, 0}, {impl.Event{Kind: impl.EvBake}, r, 0, 0, 0}, {impl.Event{Kind: impl.EvBake, Loaves: 1000}, impl.Rack{Fresh: 1010, Day: 4, Old: 3}, 1000, 0, 0}, {impl.Event{Kind: impl.EvSell, Loaves: 12}, impl.Rack{Day: 2, Old: 3}, 0, 12, 0}, {impl.Event{Kind: impl.EvSell, Loaves: 10}, impl.Rack{Day: 4, Old: 3}, 0, 10, 0}, {impl.Event{Kind: impl.EvSell, Loaves: 14}, impl.Rack{Old: 3}, 0, 14, 0}, {impl.Event{Kind: impl.EvSell}, r, 0, 0, 0}, {impl.Event{Kind: impl.EvCheap, Loaves: 5}, impl.Rack{Fresh: 10, Day: 2}, 0, 5, 0}, {impl.Event{Kind: impl.EvCheap, Loaves: 7}, impl.Rack{Fresh: 10}, 0, 7, 0}, {impl.Event{Kind: impl.EvCheap}, r, 0, 0, 0}, {impl.Event{Kind: impl.EvMorning}, impl.Rack{Day: 10, Old: 4}, 0, 0, 3},
	}
	for _, c := range cases {
		rack, baked, sold, thrown, ok := impl.EventOn(r, c.event)
		if !ok || rack != c.rack || baked != c.baked || sold != c.sold || thrown != c.thrown {
			t.Errorf("EventOn(%v, %v) = %v, %d, %d, %d, %v; want %v, %d, %d, %d, true", r, c.event, rack, baked, sold, thrown, ok, c.rack, c.baked, c.sold, c.thrown)
		}
	}
	full := impl.Rack{Fresh: 9990, Day: 10000, Old: 10000}
	if rack, baked, _, _, ok := impl.EventOn(full, impl.Event{Kind: impl.EvBake, Loaves: 10}); !ok || baked != 10 || rack != (impl.Rack{Fresh: 10000, Day: 10000, Old: 10000}) {
		t.Errorf("EventOn(%v) that is full then = %v, %d, %v", full, rack, baked, ok)
	}
	if rack, _, _, thrown, ok := impl.EventOn(full, impl.Event{Kind: impl.EvMorning}); !ok || thrown != 10000 || rack != (impl.Rack{Day: 9990, Old: 10000}) {
		t.Errorf("EventOn(%v) in the morning = %v, %d, %v", full, rack, thrown, ok)
	}
}

func TestEventOnRejects(t *testing.T) {
	check := func(r impl.Rack, e impl.Event) {
		t.Helper()
		rack, baked, sold, thrown, ok := impl.EventOn(r, e)
		if ok || rack != r || baked != 0 || sold != 0 || thrown != 0 {
			t.Errorf("EventOn(%v, %v) = %v, %d, %d, %d, %v; want the rack, zeros and false", r, e, rack, baked, sold, thrown, ok)
		}
	}
	r := impl.Rack{Fresh: 10, Day: 4, Old: 3}
	for _, e := range []impl.Event{{}, {Kind: 5}, {Kind: -1}, {Kind: 0, Loaves: 5}, {Kind: 5, Loaves: 5}, {Kind: math.MaxInt64}, {Kind: math.MinInt64}, {Kind: impl.EvSell, Loaves: 15}, {Kind: impl.EvSell, Loaves: 17}, {Kind: impl.EvSell, Loaves: 1000}, {Kind: impl.EvCheap, Loaves: 8}, {Kind: impl.EvCheap, Loaves: 17}, {Kind: impl.EvMorning, Loaves: 1}, {Kind: impl.EvMorning, Loaves: 1000}} {
		check(r, e)
	}
	check(impl.Rack{Fresh: 9990}, impl.Event{Kind: impl.EvBake, Loaves: 11})
	check(impl.Rack{Fresh: 10000}, impl.Event{Kind: impl.EvBake, Loaves: 1})
	check(impl.Rack{}, impl.Event{Kind: impl.EvSell, Loaves: 1})
	check(impl.Rack{Old: 5}, impl.Event{Kind: impl.EvSell, Loaves: 1})
	check(impl.Rack{Fresh: 5}, impl.Event{Kind: impl.EvCheap, Loaves: 1})
	big := impl.Rack{Fresh: 10000, Day: 10000, Old: 10000}
	for kind := impl.EvBake; kind <= impl.EvMorning; kind++ {
		for _, n := range outside(0, 1000) {
			check(r, impl.Event{Kind: kind, Loaves: n})
			check(big, impl.Event{Kind: kind, Loaves: n})
		}
		for _, n := range outside(0, 10000) {
			for _, loaves := range []int{0, 5} {
				check(impl.Rack{Fresh: n, Day: 4, Old: 3}, impl.Event{Kind: kind, Loaves: loaves})
				check(impl.Rack{Fresh: 10, Day: n, Old: 3}, impl.Event{Kind: kind, Loaves: loaves})
				check(impl.Rack{Fresh: 10, Day: 4, Old: n}, impl.Event{Kind: kind, Loaves: loaves})
			}
		}
	}
}

func TestBookOk(t *testing.T) {
	good := bookWith(t, someEvents()...)
	if !impl.BookOk(good) || !impl.BookOk(impl.Book{}) || !impl.BookOk(impl.Book{Events: []impl.Event{}}) {
		t.Errorf("BookOk(%v) or that of an empty book is false", good)
	}
	change := func(what func(b *impl.Book)) impl.Book {
		b := good
		b.Events = slices.Clone(good.Events)
		what(&b)
		return b
	}
	var bad []impl.Book
	for _, by := range []int{-1, 1, 1000} {
		bad = append(bad, change(func(b *impl.Book) { b.Rack.Fresh += by }), change(func(b *impl.Book) { b.Rack.Day += by }), change(func(b *impl.Book) { b.Rack.Old += by }), change(func(b *impl.Book) { b.Baked += by }), change(func(b *impl.Book) { b.Sold += by }), change(func(b *impl.Book) { b.Thrown += by }), change(func(b *impl.Book) { b.Events[0].Loaves += by }), change(func(b *impl.Book) { b.Events[2].Loaves += by }), change(func(b *impl.Book) { b.Sold += by; b.Thrown -= by }))
	}
	bad = append(bad,
		change(func(b *impl.Book) { b.Events = b.Events[1:] }), change(func(b *impl.Book) { b.Events = b.Events[:4] }), change(func(b *impl.Book) { b.Events = nil }), change(func(b *impl.Book) { b.Events[1].Loaves = 21 }), change(func(b *impl.Book) { b.Events[0].Kind = 0 }), change(func(b *impl.Book) { b.Events[9].Kind = 5 }), change(func(b *impl.Book) { b.Events[9].Loaves = -1 }),
		impl.Book{Sold: 1}, impl.Book{Baked: 1}, impl.Book{Thrown: -1}, impl.Book{Rack: impl.Rack{Fresh: 1}, Baked: 1}, impl.Book{Events: []impl.Event{{}}}, impl.Book{Events: []impl.Event{{Kind: impl.EvSell, Loaves: 1}}, Sold: 1}, impl.Book{Events: repeated(41, impl.Event{Kind: impl.EvMorning})}, impl.Book{Events: repeated(500, impl.Event{Kind: impl.EvBake})},
		// The rack is too full after the last event.
		impl.Book{Events: repeated(11, impl.Event{Kind: impl.EvBake, Loaves: 1000}), Rack: impl.Rack{Fresh: 11000}, Baked: 11000},
	)
	for _, n := range farOut {
		bad = append(bad, change(func(b *impl.Book) { b.Baked = n }), change(func(b *impl.Book) { b.Rack.Old = n }), change(func(b *impl.Book) { b.Events[0].Loaves = n }))
	}
	for _, b := range bad {
		if impl.BookOk(b) {
			t.Errorf("BookOk(%v) = true", b)
		}
		if got, ok := impl.Enter(b, impl.Event{Kind: impl.EvMorning}); ok || !sameBook(got, b) {
			t.Errorf("Enter(%v) = %v, %v; want it unchanged, false", b, got, ok)
		}
		if got, ok := impl.Strike(b); ok || !sameBook(got, b) {
			t.Errorf("Strike(%v) = %v, %v; want it unchanged, false", b, got, ok)
		}
		if got := impl.DaysIn(b); got != -1 {
			t.Errorf("DaysIn(%v) = %d, want -1", b, got)
		}
	}
}

func TestEnter(t *testing.T) {
	events := someEvents()
	want := []impl.Book{
		{Rack: impl.Rack{Fresh: 20}, Baked: 20}, {Rack: impl.Rack{Fresh: 8}, Baked: 20, Sold: 12}, {Rack: impl.Rack{Day: 8}, Baked: 20, Sold: 12}, {Rack: impl.Rack{Fresh: 5, Day: 8}, Baked: 25, Sold: 12}, {Rack: impl.Rack{Fresh: 5, Day: 5}, Baked: 25, Sold: 15}, {Rack: impl.Rack{Day: 5, Old: 5}, Baked: 25, Sold: 15}, {Rack: impl.Rack{Day: 5, Old: 3}, Baked: 25, Sold: 17}, {Rack: impl.Rack{Day: 4, Old: 3}, Baked: 25, Sold: 18}, {Rack: impl.Rack{Old: 4}, Baked: 25, Sold: 18, Thrown: 3}, {Rack: impl.Rack{Old: 4}, Baked: 25, Sold: 18, Thrown: 3},
	}
	b := impl.Book{}
	for i, e := range events {
		want[i].Events = events[:i+1]
		before := b
		next, ok := impl.Enter(b, e)
		if !ok || !sameBook(next, want[i]) || !impl.BookOk(next) {
			t.Fatalf("Enter(%v, %v) = %v, %v; want %v, true", b, e, next, ok, want[i])
		}
		// Striking the event leads back.
		if back, ok := impl.Strike(next); !ok || !sameBook(back, before) {
			t.Errorf("Strike(%v) = %v, %v; want %v, true", next, back, ok, before)
		}
		b = next
	}
	for _, e := range []impl.Event{{Kind: impl.EvSell, Loaves: 1}, {Kind: impl.EvCheap, Loaves: 5}, {Kind: impl.EvMorning, Loaves: 1}, {Kind: impl.EvBake, Loaves: 1001}, {Kind: impl.EvBake, Loaves: -1}, {Kind: 0}, {Kind: 5}, {Kind: impl.EvSell, Loaves: -1}} {
		if got, ok := impl.Enter(b, e); ok || !sameBook(got, b) {
			t.Errorf("Enter(%v, %v) = %v, %v; want it unchanged, false", b, e, got, ok)
		}
	}
	full := bookWith(t, repeated(10, impl.Event{Kind: impl.EvBake, Loaves: 1000})...)
	if got, ok := impl.Enter(full, impl.Event{Kind: impl.EvBake, Loaves: 1}); ok || !sameBook(got, full) {
		t.Errorf("Enter of a loaf too much = %v, %v", got, ok)
	}
	if got, ok := impl.Enter(full, impl.Event{Kind: impl.EvBake}); !ok || got.Rack.Fresh != 10000 {
		t.Errorf("Enter of no loaf = %v, %v", got, ok)
	}
}

// The fortieth event is the last one that can be entered.
func TestFortiethEvent(t *testing.T) {
	b := impl.Book{}
	for n := 1; n <= 40; n++ {
		e := impl.Event{Kind: impl.EvMorning}
		if n%3 == 0 {
			e = impl.Event{Kind: impl.EvBake, Loaves: n}
		}
		next, ok := impl.Enter(b, e)
		if !ok || len(next.Events) != n || next.Events[n-1] != e || !impl.BookOk(next) {
			t.Fatalf("event %d: Enter = %v, %v", n, next, ok)
		}
		b = next
	}
	if got := impl.DaysIn(b); got != 27 {
		t.Errorf("DaysIn(%v) = %d, want 27", b, got)
	}
	for _, e := range []impl.Event{{Kind: impl.EvMorning}, {Kind: impl.EvBake}, {Kind: impl.EvSell}, {Kind: impl.EvCheap}} {
		if got, ok := impl.Enter(b, e); ok || !sameBook(got, b) {
			t.Errorf("event 41: Enter(%v) = %v, %v; want it unchanged, false", e, got, ok)
		}
	}
	last, ok := impl.Strike(b)
	if !ok || len(last.Events) != 39 {
		t.Fatalf("Strike of event 40 = %v, %v", last, ok)
	}
	if got, ok := impl.Enter(last, impl.Event{Kind: impl.EvBake, Loaves: 1}); !ok || len(got.Events) != 40 {
		t.Errorf("event 40 again: Enter = %v, %v", got, ok)
	}
}

func TestStrike(t *testing.T) {
	for _, b := range []impl.Book{{}, {Events: []impl.Event{}}} {
		if got, ok := impl.Strike(b); ok || !sameBook(got, b) {
			t.Errorf("Strike(%v) = %v, %v; want it unchanged, false", b, got, ok)
		}
	}
	b := bookWith(t, someEvents()...)
	for n := len(someEvents()) - 1; n >= 0; n-- {
		next, ok := impl.Strike(b)
		if want := bookWith(t, someEvents()[:n]...); !ok || !sameBook(next, want) {
			t.Fatalf("Strike(%v) = %v, %v; want %v, true", b, next, ok, want)
		}
		b = next
	}
}

func TestDaysIn(t *testing.T) {
	morning, bake := impl.Event{Kind: impl.EvMorning}, impl.Event{Kind: impl.EvBake, Loaves: 4}
	cases := []struct {
		events []impl.Event
		want   int
	}{
		{nil, 0}, {[]impl.Event{morning}, 1}, {[]impl.Event{bake}, 0}, {[]impl.Event{bake, morning, bake, morning, morning}, 3}, {repeated(40, morning), 40}, {someEvents(), 3}, {[]impl.Event{bake, {Kind: impl.EvSell, Loaves: 4}, bake, morning, {Kind: impl.EvCheap, Loaves: 4}}, 1},
	}
	for _, c := range cases {
		if got := impl.DaysIn(bookWith(t, c.events...)); got != c.want {
			t.Errorf("DaysIn of %v = %d, want %d", c.events, got, c.want)
		}
	}
}

// In the book, what was baked is sold, thrown away or on the shelf.
func TestNoLoafIsLostInTheBook(t *testing.T) {
	r := rand.New(rand.NewPCG(37, 0))
	for n := range 120 {
		b, byHand := impl.Book{}, &shelfByHand{}
		most := 1 + n%30
		for range 60 {
			e := impl.Event{Kind: 1 + r.IntN(4)}
			if e.Kind != impl.EvMorning {
				e.Loaves = r.IntN(most + 1)
			}
			tried := byHand.copied()
			possible := tried.happen(e) && len(b.Events) < 40
			next, ok := impl.Enter(b, e)
			if ok != possible {
				t.Fatalf("Enter(%v, %v) = %v, %v; want %v", b, e, next, ok, possible)
			}
			if !ok {
				if !sameBook(next, b) {
					t.Fatalf("Enter(%v, %v) = %v, false", b, e, next)
				}
				continue
			}
			b, byHand = next, tried
			if b.Rack != byHand.rack() || b.Baked != byHand.baked || b.Sold != byHand.sold || b.Thrown != byHand.thrown {
				t.Fatalf("the book is %v, but by hand it is %v", b, byHand)
			}
			if shelf := b.Rack.Fresh + b.Rack.Day + b.Rack.Old; b.Baked != b.Sold+b.Thrown+shelf {
				t.Fatalf("in %v a loaf is lost", b)
			}
		}
	}
}

func TestBooksAreNotChanged(t *testing.T) {
	mark := impl.Event{Kind: 77}
	b := bookWith(t, someEvents()...)
	b.Events = withSpare(b.Events, mark)
	for _, e := range []impl.Event{{Kind: impl.EvBake, Loaves: 5}, {Kind: impl.EvSell, Loaves: 500}, {Kind: 9}} {
		got, _ := impl.Enter(b, e)
		got.Events[0].Loaves = 99
		got.Events = append(got.Events, mark)
		checkUntouched(t, b.Events, someEvents(), mark)
	}
	got, _ := impl.Strike(b)
	got.Events[0].Loaves = 99
	got.Events = append(got.Events, impl.Event{Kind: 99})
	impl.BookOk(b)
	impl.DaysIn(b)
	checkUntouched(t, b.Events, someEvents(), mark)
}
