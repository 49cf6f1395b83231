package lease

import (
	"math"
	"math/big"
	"slices"
	"testing"
)

// What follows reads the chapter word by word, in numbers of any size, without a thought of how the package does it.

// whole answers the number as one that may grow to any size.
func whole(n int64) *big.Int { return big.NewInt(n) }

// sum answers both numbers' sum.
func sum(a, b *big.Int) *big.Int { return new(big.Int).Add(a, b) }

// isBelow tells whether a is below b.
func isBelow(a, b *big.Int) bool { return a.Cmp(b) < 0 }

// nearest answers the number from -2^63 to 2^63 - 1 that is the nearest one.
func nearest(n *big.Int) int64 {
	if isBelow(n, whole(least)) {
		return least
	}
	if isBelow(whole(most), n) {
		return most
	}
	return n.Int64()
}

// plainUntil answers what Until does.
func plainUntil(stamps []int64, now int64) int64 {
	left := []*big.Int{whole(now)}
	for _, s := range stamps {
		if !isBelow(whole(s), whole(0)) {
			left = append(left, whole(s))
		}
	}
	if len(left) == 1 {
		return 0
	}
	slices.SortFunc(left, (*big.Int).Cmp)
	return nearest(sum(left[len(left)-2], whole(24-2*2)))
}

// plainHolds answers what Holds does.
func plainHolds(until, now int64) bool { return isBelow(whole(now), whole(until)) }

// plainWaits answers what Waits does.
func plainWaits(heard, now int64) bool { return isBelow(whole(now), sum(whole(heard), whole(24))) }

// plainTimeout answers what Timeout does.
func plainTimeout(draw int) int64 {
	if draw < 0 {
		return 30
	}
	return nearest(sum(whole(30), new(big.Int).Rem(whole(int64(draw)), whole(16))))
}

// holdsAll holds each call, of these arguments, against the chapter.
func holdsAll(t *testing.T, stamps []int64, now, other int64, draw int) {
	t.Helper()
	until := plainUntil(stamps, now)
	untils(t, stamps, now, until)
	for _, x := range [][2]int64{{until, now}, {now, until}, {now, other}, {other, now}, {now, now}} {
		holds(t, x[0], x[1], plainHolds(x[0], x[1]))
		waits(t, x[0], x[1], plainWaits(x[0], x[1]))
	}
	timeout(t, draw, plainTimeout(draw))
}

// draws answers a draw from 0 on, below what it is asked for, from a short rule, so that each run does the same.
func draws(seed uint64) func(n int) int {
	return func(n int) int {
		seed = seed*6364136223846793005 + 1442695040888963407
		return int(seed >> 33 % uint64(n))
	}
}

// drawnTime answers a time: mostly a small one, some below 0, and some near the limits of all numbers.
func drawnTime(draw func(n int) int) int64 {
	switch draw(10) {
	case 0:
		return most - int64(draw(50))
	case 1:
		return least + int64(draw(50))
	case 2:
		return int64(draw(50)) - 25
	case 3:
		return int64(draw(1<<31))<<32 + int64(draw(1<<31))
	case 4:
		return -int64(draw(1<<31))<<32 - int64(draw(1<<31))
	}
	return int64(draw(60))
}

// drawnStamps answers up to five stamps; some are the same, or none.
func drawnStamps(draw func(n int) int) []int64 {
	var l []int64
	for range draw(6) {
		switch draw(6) {
		case 0:
			l = append(l, -1)
		case 1:
			if len(l) > 0 {
				l = append(l, l[draw(len(l))])
			}
		default:
			l = append(l, drawnTime(draw))
		}
	}
	return l
}

// P15.1, P15.2: drawn stamps and times, held against a plain reading of the chapter.
func TestManyTimes(t *testing.T) {
	var none, some, limit, below int
	for seed := range uint64(100000) {
		draw := draws(seed)
		stamps, now := drawnStamps(draw), drawnTime(draw)
		holdsAll(t, stamps, now, drawnTime(draw), int(drawnTime(draw)))
		switch until := plainUntil(stamps, now); {
		case until == 0:
			none++
		case until == most:
			limit++
		case until < 0:
			below++
		default:
			some++
		}
	}
	if none < 10000 || some < 30000 || limit < 1000 || below < 4000 {
		t.Errorf("the draws say little: %d, %d, %d, %d", none, some, limit, below)
	}
}

// P15.1, P15.2: all lists of up to three of some stamps, with each of some times, held against a plain reading of the chapter.
func TestAllShortLists(t *testing.T) {
	some := []int64{least, -25, -21, -20, -1, 0, 1, 5, 6, most - 21, most - 20, most - 19, most}
	lists := [][]int64{nil}
	ends := 0
	for range 3 {
		begins := lists[ends:]
		ends = len(lists)
		for _, l := range begins {
			for _, s := range some {
				lists = append(lists, append(l[:len(l):len(l)], s))
			}
		}
	}
	for _, l := range lists {
		for _, now := range some {
			if got, want := Until(l, now), plainUntil(l, now); got != want {
				t.Fatalf("Until(%v, %d): %d, not %d", l, now, got, want)
			}
		}
	}
	for _, a := range some {
		for _, b := range some {
			for by := int64(-30); by <= 30; by++ {
				// Beyond the limits it is another number, and as good to ask.
				holds(t, a, b+by, plainHolds(a, b+by))
				waits(t, a, b+by, plainWaits(a, b+by))
			}
		}
	}
}

// FuzzLease asks times of any numbers what the chapter says of them.
func FuzzLease(f *testing.F) {
	f.Add(int64(10), int64(-1), int64(3), 2, int64(12), int64(33), 15)
	f.Add(int64(math.MaxInt64), int64(math.MinInt64), int64(0), 3, int64(-1), int64(math.MinInt64), -1)
	f.Fuzz(func(t *testing.T, a, b, c int64, n int, now, other int64, draw int) {
		stamps := []int64{a, b, c}[:uint(n)%4]
		holdsAll(t, stamps, now, other, draw)
		if now >= 0 {
			neverShorter(t, stamps, now, other)
		}
	})
}
