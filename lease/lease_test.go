package lease

import (
	"fmt"
	"math"
	"slices"
	"testing"
)

// The greatest time and the least one.
const (
	most  = math.MaxInt64
	least = math.MinInt64
)

// watched is a list that is handed in, and what is behind it, that is nobody's.
type watched struct{ list, all, was []int64 }

// watch answers the same list in memory of its own.
func watch(l []int64) watched {
	all := append(slices.Clone(l), 777, 888, 999)
	return watched{list: all[:len(l)], all: all, was: slices.Clone(all)}
}

// stays asks that nothing of it is changed.
func (w watched) stays(t *testing.T, what string) {
	t.Helper()
	if !slices.Equal(w.all, w.was) {
		t.Errorf("%s: what was handed in is changed: %v, not %v", what, w.all, w.was)
	}
}

// asks asks Until of the stamps in this order, twice.
func asks(t *testing.T, stamps []int64, now, want int64) {
	t.Helper()
	w := watch(stamps)
	for range 2 {
		if got := Until(w.list, now); got != want {
			t.Errorf("Until(%v, %d): %d, not %d", stamps, now, got, want)
		}
	}
	w.stays(t, "Until")
}

// untils asks Until of the stamps in each order, if they are few; of many, in some.
func untils(t *testing.T, stamps []int64, now, want int64) {
	t.Helper()
	if len(stamps) <= 4 {
		for _, l := range orders(stamps) {
			asks(t, l, now, want)
		}
		return
	}
	l := slices.Clone(stamps)
	asks(t, l, now, want)
	slices.Reverse(l)
	asks(t, l, now, want)
	slices.Sort(l)
	asks(t, l, now, want)
	slices.Reverse(l)
	asks(t, l, now, want)
}

// orders answers the list in each order.
func orders(l []int64) [][]int64 {
	if len(l) == 0 {
		return [][]int64{nil}
	}
	var all [][]int64
	for i := range l {
		for _, rest := range orders(slices.Delete(slices.Clone(l), i, i+1)) {
			all = append(all, append([]int64{l[i]}, rest...))
		}
	}
	return all
}

// holds asks Holds.
func holds(t *testing.T, until, now int64, want bool) {
	t.Helper()
	if got := Holds(until, now); got != want {
		t.Errorf("Holds(%d, %d): %v, not %v", until, now, got, want)
	}
}

// waits asks Waits.
func waits(t *testing.T, heard, now int64, want bool) {
	t.Helper()
	if got := Waits(heard, now); got != want {
		t.Errorf("Waits(%d, %d): %v, not %v", heard, now, got, want)
	}
}

// timeout asks Timeout.
func timeout(t *testing.T, draw int, want int64) {
	t.Helper()
	if got := Timeout(draw); got != want {
		t.Errorf("Timeout(%d): %d, not %d", draw, got, want)
	}
}

// The chapter's table, row by row.
func TestExamples(t *testing.T) {
	untils(t, []int64{10, -1}, 12, 30)
	untils(t, []int64{10, 11}, 12, 31)
	untils(t, []int64{-1, -1}, 12, 0)
	untils(t, nil, 12, 0)
	untils(t, []int64{15, 3}, 12, 32)
	holds(t, 30, 29, true)
	holds(t, 30, 30, false)
	waits(t, 10, 33, true)
	waits(t, 10, 34, false)
	waits(t, most, most, true)
	timeout(t, 0, 30)
	timeout(t, 15, 45)
	timeout(t, 16, 30)
	timeout(t, -3, 30)
}

// P15.1: where no stamp is left, whatever the time.
func TestUntilNone(t *testing.T) {
	for _, l := range [][]int64{nil, {}, {-1}, {-1, -1}, {-7}, {-1, -2, -3}, {least}, {least, least}, {least, -1, least + 1}, slices.Repeat([]int64{-1}, 300)} {
		for _, now := range []int64{least, least + 1, -21, -20, -19, -1, 0, 1, 12, 1 << 32, most - 20, most - 1, most} {
			untils(t, l, now, 0)
		}
	}
}

// P15.1: one stamp, two and many, the time below them, among them and above them.
func TestUntil(t *testing.T) {
	for _, x := range []struct {
		stamps []int64
		now    int64
		want   int64
	}{
		{[]int64{10}, 9, 29},
		{[]int64{10}, 10, 30},
		{[]int64{10}, 11, 30},
		{[]int64{10}, 1000, 30},
		{[]int64{10}, 0, 20},
		{[]int64{10, 20}, 5, 30},
		{[]int64{10, 20}, 10, 30},
		{[]int64{10, 20}, 11, 31},
		{[]int64{10, 20}, 15, 35},
		{[]int64{10, 20}, 19, 39},
		{[]int64{10, 20}, 20, 40},
		{[]int64{10, 20}, 21, 40},
		{[]int64{10, 20}, 99, 40},
		{[]int64{10, 10}, 9, 30},
		{[]int64{10, 10}, 10, 30},
		{[]int64{10, 10}, 11, 30},
		{[]int64{10, 10}, 20, 30},
		{[]int64{10, 20, 30}, 5, 40},
		{[]int64{10, 20, 30}, 15, 40},
		{[]int64{10, 20, 30}, 20, 40},
		{[]int64{10, 20, 30}, 25, 45},
		{[]int64{10, 20, 30}, 35, 50},
		{[]int64{10, 30, 30}, 5, 50},
		{[]int64{10, 30, 30}, 30, 50},
		{[]int64{10, 10, 30}, 20, 40},
		{[]int64{10, 10, 30}, 5, 30},
		{[]int64{10, 10, 10}, 10, 30},
		{[]int64{1, 2, 3, 4}, 0, 23},
		{[]int64{1, 2, 3, 4}, 9, 24},
		{[]int64{1, 2, 3, 4, 5}, 0, 24},
		{[]int64{1, 2, 3, 4, 5}, 4, 24},
		{[]int64{1, 2, 3, 4, 5}, 5, 25},
		{[]int64{1, 2, 3, 4, 5}, 9, 25},
		{[]int64{5, 4, 5, 4, 5, 1}, 0, 25},
		// 0 is a stamp, -1 is none.
		{[]int64{0}, 0, 20},
		{[]int64{0}, 5, 20},
		{[]int64{0, 0}, 5, 20},
		{[]int64{0, -1}, 5, 20},
		{[]int64{1, -1}, 5, 21},
		{[]int64{0, 7}, 5, 25},
		{[]int64{-1, 7}, 5, 25},
		{[]int64{-1, 7}, 0, 20},
		{[]int64{-1, 3}, 9, 23},
		{[]int64{-1, -2, 3, 4}, 9, 24},
		{[]int64{-1, -2, 3, 4}, 0, 23},
		{[]int64{-1, least, 3, -5}, 9, 23},
		{[]int64{least}, 5, 0},
		{[]int64{least, 5}, 5, 25},
		{[]int64{least, 4, 6}, 7, 26},
		{[]int64{1 << 32, 1<<32 + 1}, 1 << 33, 1<<32 + 21},
	} {
		untils(t, x.stamps, x.now, x.want)
	}
}

// P15.1: a time below 0 is left in, whatever is left out.
func TestUntilBelow(t *testing.T) {
	for _, x := range []struct {
		stamps []int64
		now    int64
		want   int64
	}{
		{[]int64{3}, -1, 19},
		{[]int64{3}, -4, 16},
		{[]int64{0}, -4, 16},
		{[]int64{3}, -19, 1},
		{[]int64{3}, -20, 0},
		{[]int64{3}, -21, -1},
		{[]int64{3}, -100, -80},
		{[]int64{most}, -100, -80},
		{[]int64{3, -2}, -4, 16},
		{[]int64{3, -4}, -4, 16},
		{[]int64{3, -5}, -4, 16},
		{[]int64{3, -1, -2, -3}, -4, 16},
		{[]int64{3, -1}, -100, -80},
		{[]int64{3, 5}, -4, 23},
		{[]int64{3, 3}, -4, 23},
		{[]int64{0, 0}, -100, 20},
		{[]int64{3, 5, 9}, -100, 25},
		{[]int64{3}, least, least + 20},
		{[]int64{3}, least + 1, least + 21},
		{[]int64{most}, least, least + 20},
		{[]int64{3, -1}, least, least + 20},
		{[]int64{3, least}, least, least + 20},
		{[]int64{3, 5}, least, 23},
		{[]int64{-4}, -4, 0},
		{[]int64{-4, -5}, -100, 0},
	} {
		untils(t, x.stamps, x.now, x.want)
	}
}

// P15.1: what would be beyond the greatest number, and what is at it and beside it.
func TestUntilLimit(t *testing.T) {
	for by := int64(-25); by <= 0; by++ {
		at := most + by
		want := most + min(by+20, 0)
		untils(t, []int64{at}, most, want)
		untils(t, []int64{at, 3}, most, want)
		untils(t, []int64{at, -1}, most, want)
		untils(t, []int64{at, least}, most, want)
		untils(t, []int64{most}, at, want)
		untils(t, []int64{at, most}, 0, want)
		untils(t, []int64{at, most}, least, want)
		untils(t, []int64{at, at}, at, want)
		untils(t, []int64{at, at, at, at, at}, 7, want)
	}
	untils(t, []int64{most, most}, most, most)
	untils(t, []int64{most, most}, least, most)
	untils(t, []int64{most, 3}, 5, 25)
	untils(t, []int64{3}, most, 23)
}

// P15.1: many stamps, as many as one likes.
func TestUntilMany(t *testing.T) {
	for _, n := range []int{2, 3, 7, 64, 300, 1 << 16} {
		var l []int64
		for i := range n {
			l = append(l, int64(i), -1-int64(i))
		}
		top := int64(n - 1)
		untils(t, l, 0, top-1+20)
		untils(t, l, least, top-1+20)
		untils(t, l, top-1, top-1+20)
		untils(t, l, top, top+20)
		untils(t, l, most, top+20)
	}
}

// P15.1: a lease at its end, beside it, and at the limits.
func TestHolds(t *testing.T) {
	for _, until := range []int64{least + 1, -30, -1, 0, 1, 30, 1 << 31, 1 << 32, most - 1} {
		holds(t, until, until-1, true)
		holds(t, until, until, false)
		holds(t, until, until+1, false)
		holds(t, until, least, true)
		holds(t, until, most, false)
		holds(t, least, until, false)
		holds(t, most, until, true)
	}
	holds(t, most, most, false)
	holds(t, most, least, true)
	holds(t, least, most, false)
	holds(t, least, least, false)
	holds(t, 0, -1, true)
	holds(t, 0, 0, false)
}

// P15.2: a wait at its end and beside it, and times ahead of what was heard.
func TestWaits(t *testing.T) {
	for _, heard := range []int64{least, least + 1, -1 << 32, -100, -25, -24, -23, -1, 0, 1, 10, 1 << 31, 1 << 32, most - 26, most - 25} {
		waits(t, heard, heard, true)
		waits(t, heard, heard+1, true)
		waits(t, heard, heard+22, true)
		waits(t, heard, heard+23, true)
		waits(t, heard, heard+24, false)
		waits(t, heard, heard+25, false)
		waits(t, heard, most, false)
		waits(t, heard, least, true)
		if heard > least {
			waits(t, heard, heard-1, true)
		}
	}
	waits(t, 5, -100, true)
	waits(t, 0, most, false)
	waits(t, -1, most, false)
	waits(t, 0, least, true)
	waits(t, least, -1, false)
	waits(t, least, 0, false)
	waits(t, -most, most, false)
}

// P15.2: a wait that ends beyond the greatest number, at it, or just ahead of it.
func TestWaitsLimit(t *testing.T) {
	for by := int64(0); by < 24; by++ {
		heard := most - by
		for _, now := range []int64{most, most - 1, heard, heard - 1, 0, -1, least, least + 1, least + 24 - by, least + 100} {
			waits(t, heard, now, true)
		}
	}
	waits(t, most-24, most, false)
	waits(t, most-24, most-1, true)
	waits(t, most-25, most, false)
	waits(t, most-25, most-1, false)
	waits(t, most-25, most-2, true)
}

// P15.2: draws of all kinds.
func TestTimeout(t *testing.T) {
	for draw := range 1000 {
		timeout(t, draw, int64(30+draw%16))
		timeout(t, -1-draw, 30)
	}
	for _, x := range []struct {
		draw int
		want int64
	}{
		{0, 30}, {1, 31}, {14, 44}, {15, 45}, {16, 30}, {17, 31}, {31, 45}, {32, 30}, {-1, 30}, {-15, 30}, {-16, 30}, {-17, 30},
		{math.MaxInt, 45}, {math.MaxInt - 1, 44}, {math.MaxInt - 15, 30}, {math.MaxInt - 16, 45},
		{math.MinInt, 30}, {math.MinInt + 1, 30}, {math.MinInt + 15, 30},
		{1 << 31, 30}, {1<<31 + 5, 35}, {1 << 32, 30}, {1<<32 + 7, 37}, {-1 << 32, 30},
	} {
		timeout(t, x.draw, x.want)
	}
}

// upTo answers so many times from that one on, and none beyond the greatest number.
func upTo(from int64, n int) []int64 {
	l := []int64{from}
	for len(l) < n && l[len(l)-1] < most {
		l = append(l, l[len(l)-1]+1)
	}
	return l
}

// P15.3: all that two clocks may say, when the follower is reached and behind it.
func TestSure(t *testing.T) {
	for _, s := range []int64{2, 3, 10, 1 << 32, most - 60, most - 22, most - 21, most - 20, most - 19, most - 5, most} {
		asked := 0
		for _, reached := range upTo(s-2, 42) {
			until := Until([]int64{s}, s)
			for _, now := range upTo(s, 60) {
				for _, its := range upTo(now-2, 5) {
					if its >= reached && Holds(until, now) && !Waits(reached, its) {
						t.Fatalf("sent at %d, reached at %d: at %d the lease holds, and at %d the follower waits no more", s, reached, now, its)
					}
					asked++
				}
			}
		}
		if asked < 9 {
			t.Errorf("sent at %d: %d times are too few", s, asked)
		}
	}
	// A lease is not shorter than that asks: of the slowest clock and the fastest one, both end at once.
	until := Until([]int64{10}, 12)
	holds(t, until, 29, true)
	waits(t, 10-2, 29+2, true)
	holds(t, until, 30, false)
	waits(t, 10-2, 30+2, false)
}

// way is a message on its way: to a follower, or back from it.
type way struct {
	to    int
	stamp int64
	back  bool
}

// three are a leader (0) and two followers: their clocks, what the leader was answered, and when a follower heard of it.
type three struct {
	clocks [3]int64
	stamps [2]int64
	heard  [2]int64
	ways   []way
}

// tick lets the clock go on, if no two differ by more than 2 then.
func (c *three) tick(i int) {
	if c.clocks[i] == most {
		return
	}
	next := c.clocks
	next[i]++
	if slices.Max(next[:])-slices.Min(next[:]) <= 2 {
		c.clocks = next
	}
}

// comes lets a message come.
func (c *three) comes(w way) {
	if w.back {
		c.stamps[w.to] = max(c.stamps[w.to], w.stamp)
		return
	}
	c.heard[w.to] = c.clocks[w.to+1]
	c.ways = append(c.ways, way{to: w.to, stamp: w.stamp, back: true})
}

// step does something drawn: of so many steps, one is of a message.
func (c *three) step(draw func(n int) int, of int) {
	if draw(of) > 0 {
		c.tick(draw(3))
		return
	}
	if len(c.ways) == 0 || draw(6) == 0 {
		c.ways = append(c.ways, way{to: draw(2), stamp: c.clocks[0]})
		return
	}
	at := draw(len(c.ways))
	w := c.ways[at]
	if draw(8) > 0 { // else it comes once more later on
		c.ways = slices.Delete(c.ways, at, at+1)
	}
	if draw(5) > 0 { // else it is lost
		c.comes(w)
	}
}

// waiting tells whether the follower was reached, and waits.
func (c *three) waiting(i int) bool {
	return c.stamps[i] >= 0 && Waits(c.heard[i], c.clocks[i+1])
}

// P15.3 (W6): drawn clocks and messages: while a lease holds, one of the followers waits, and so no majority votes for another one.
func TestNoTwoLead(t *testing.T) {
	var sure, over, alone, ends int
	for seed := range uint64(1500) {
		draw := draws(seed)
		begin := []int64{0, 1, 50, most - 90}[draw(4)]
		c := three{stamps: [2]int64{-1, -1}}
		for i := range c.clocks {
			c.clocks[i] = begin + int64(draw(3))
		}
		of := 2 + draw(60)
		for range 400 {
			c.step(draw, of)
			now := c.clocks[0]
			until := Until(c.stamps[:], now)
			if Holds(until, now) {
				sure++
				if !c.waiting(0) && !c.waiting(1) {
					t.Fatalf("seed %d: the lease holds, and nobody waits: %+v", seed, c)
				}
				if !c.waiting(0) || !c.waiting(1) {
					alone++
				}
			} else {
				over++
			}
			for i, s := range c.stamps {
				if Holds(Until([]int64{s}, now), now) && !c.waiting(i) {
					t.Fatalf("seed %d: the lease of %d alone holds, and it waits no more: %+v", seed, i, c)
				}
				if s >= 0 && !c.waiting(i) {
					ends++
				}
			}
		}
	}
	if sure < 50000 || over < 20000 || alone < 5000 || ends < 50000 {
		t.Errorf("the draws say little: %d, %d, %d, %d", sure, over, alone, ends)
	}
}

// neverShorter asks P15.4 of a stamp in each place that is another one, of one more, and of a later time.
func neverShorter(t *testing.T, stamps []int64, now, other int64) {
	t.Helper()
	until := Until(stamps, now)
	for i, s := range stamps {
		if other < s {
			continue
		}
		l := slices.Clone(stamps)
		l[i] = other
		if got := Until(l, now); got < until {
			t.Errorf("Until(%v, %d): %d, shorter than %d, with %d for the stamp %d", l, now, got, until, s, i)
		}
	}
	if got := Until(append(slices.Clone(stamps), other), now); got < until {
		t.Errorf("Until(%v and %d, %d): %d, shorter than %d", stamps, other, now, got, until)
	}
	if got := Until(stamps, max(now, other)); got < until {
		t.Errorf("Until(%v, %d): %d, shorter than %d at %d", stamps, max(now, other), got, until, now)
	}
}

// P15.4: drawn stamps. Clocks are numbers of ticks, so now is from 0 on; down to -20 it holds as well, and below that a first stamp may answer less than the 0 of none.
func TestLater(t *testing.T) {
	for seed := range uint64(40000) {
		draw := draws(seed)
		stamps, now, other := drawnStamps(draw), drawnTime(draw), drawnTime(draw)
		neverShorter(t, stamps, max(now, 0), other)
		neverShorter(t, stamps, -int64(draw(21)), other)
	}
}

// P15.4: who asks for votes waits no more, whatever is drawn.
func TestNoVotesWhileItWaits(t *testing.T) {
	for _, heard := range []int64{least, -50, -1, 0, 1, 100, 1 << 32, most - 45} {
		for _, draw := range []int{math.MinInt, -16, -1, 0, 1, 7, 15, 16, 17, 1000, math.MaxInt} {
			votes := heard + Timeout(draw)
			waits(t, heard, votes, false)
			for now := heard; now < heard+24; now++ {
				if !Waits(heard, now) || now >= votes {
					t.Fatalf("heard at %d, drawn %d: at %d it should wait, and asks for votes at %d", heard, draw, now, votes)
				}
			}
		}
	}
}

// R6: the same calls answer the same, whatever was asked between them.
func TestAgain(t *testing.T) {
	for seed := range uint64(500) {
		draw := draws(seed)
		Until(drawnStamps(draw), drawnTime(draw))
		Holds(drawnTime(draw), drawnTime(draw))
		Waits(drawnTime(draw), drawnTime(draw))
		Timeout(draw(100))
		untils(t, []int64{10, 11}, 12, 31)
		untils(t, nil, 12, 0)
		holds(t, 30, 29, true)
		waits(t, 10, 34, false)
		timeout(t, 15, 45)
	}
}

// What README.md says of the package.
func Example() {
	until := Until([]int64{10, -1}, 12)
	fmt.Println(until, Holds(until, 29), Holds(until, 30))
	until = Until([]int64{10, 11}, 12)
	fmt.Println(until)
	until = Until([]int64{-1, -1}, 12)
	fmt.Println(until, Holds(until, 12))
	fmt.Println(Waits(10, 33), Waits(10, 34))
	fmt.Println(Timeout(15), Timeout(16))
	// Output:
	// 30 true false
	// 31
	// 0 false
	// true false
	// 45 30
}
