package receive

import (
	"fmt"
	"slices"
	"testing"

	"stemma/api"
	"stemma/disk"
	"stemma/vault"
)

// delivery is parts that come in this order, on what was done ahead.
type delivery struct {
	what   string
	blocks int
	ahead  func(t *testing.T, v *vault.Vault)
	parts  []api.Part
}

// deliveries answers some of each kind: to a vault without snapshots, to one with some, in the place of what came in part, and behind it.
func deliveries(t *testing.T) []delivery {
	nothing := func(*testing.T, *vault.Vault) {}
	some := func(t *testing.T, v *vault.Vault) {
		t.Helper()
		is(t, "Write", v.Write(0, of("x")), api.OK)
		is(t, "Snap", v.Snap(one), api.OK)
		is(t, "Write", v.Write(1, of("y")), api.OK)
		is(t, "Snap", v.Snap(two), api.OK)
		is(t, "Hide", v.Hide(one), api.OK)
		is(t, "Write", v.Write(3, of("z")), api.OK)
	}
	inPart := func(t *testing.T, v *vault.Vault) {
		t.Helper()
		some(t, v)
		is(t, "Take", Take(v, part(two, guid(1, 9), 0, 4, "0p 2q")), api.OK)
	}
	return []delivery{
		{"no changes, to nothing", 1, nothing, cuts(t, none, one, nil)},
		{"one change, to nothing", 1, nothing, cuts(t, none, one, changesOf("0a"))},
		{"zeros, to nothing", 2, nothing, cuts(t, none, one, changesOf("0 1"))},
		{"three changes, to nothing", 4, nothing, cuts(t, none, one, changesOf("0a 1b 3c"))},
		{"no changes", 4, some, cuts(t, two, three, nil)},
		{"one change", 4, some, cuts(t, two, three, changesOf("1a"))},
		{"four changes", 4, some, cuts(t, two, three, changesOf("0a 1 2b 3c"))},
		{"four changes, one by one", 4, some, []api.Part{part(two, three, 0, 4, "0a"), part(two, three, 1, 4, "1"), part(two, three, 2, 4, "2b"), part(two, three, 3, 4, "3c")}},
		{"four changes, in the place of others", 4, inPart, cuts(t, two, three, changesOf("0a 1 2b 3c"))},
		{"no changes, in the place of others", 4, inPart, cuts(t, two, three, nil)},
		{"as many of the same, in the place of others", 4, inPart, cuts(t, two, guid(1, 9), changesOf("0a 1 2b"))},
		{"the rest of what came in part", 4, inPart, []api.Part{part(two, guid(1, 9), 2, 4, "1r 3s")}},
	}
}

// operations answers how many the Take of a part takes.
func operations(t *testing.T, d *disk.Disk, p api.Part) int {
	t.Helper()
	for fuse := 1; ; fuse++ {
		its, v := aside(t, d)
		its.Arm(fuse)
		e := Take(v, p)
		if its.On() {
			is(t, "Take of "+told(p), e, api.OK)
			return fuse - 1
		}
		is(t, "Take of "+told(p), e, api.ErrOff)
	}
}

// unflushed answers how many writes are unflushed when the power goes at that one of so many operations. These are a Commit of up to six writes: a record, of one sector more than the writes; the head; the writes; and a flush behind each.
func unflushed(t *testing.T, all, fuse int) int {
	t.Helper()
	writes := (all - 5) / 2
	if all != 2*writes+5 || writes < 1 || writes > 6 {
		t.Fatalf("%d operations are no Commit of few writes", all)
	}
	left := fuse - 1 // operations that are done
	for _, n := range []int{writes + 1, 1} {
		if left <= n {
			return left
		}
		left -= n + 1
	}
	return left
}

// ways answers all that may stay of n unflushed writes.
func ways(n int) [][]bool {
	var l [][]bool
	for bits := range 1 << n {
		keep := make([]bool, n)
		for i := range keep {
			keep[i] = bits>>i&1 == 1
		}
		l = append(l, keep)
	}
	return l
}

// goesOn asks that the vault takes all of these parts, and is then what they make of it where the power stays.
func goesOn(t *testing.T, what string, v *vault.Vault, l []api.Part, want string) {
	t.Helper()
	for _, p := range l {
		is(t, what+", and then Take of "+told(p), Take(v, p), api.OK)
	}
	if now := seen(v); now != want {
		t.Fatalf("%s, and then the rest: the vault is\n%s, not\n%s", what, now, want)
	}
}

// arrives asks that parts of which some came already make of the vault what they do where the power stays.
func arrives(t *testing.T, what string, v *vault.Vault, l []api.Part, want string) {
	t.Helper()
	for _, p := range l {
		if e := Take(v, p); e != api.OK && e != api.ErrOrder && e != api.ErrBase {
			t.Errorf("%s, and then Take of %s: %d", what, told(p), e)
		}
	}
	if now := seen(v); now != want {
		t.Fatalf("%s, and then all: the vault is\n%s, not\n%s", what, now, want)
	}
}

// P12.3, W4: the power goes at each operation of each Take, with each way of what stays: Open finds what was there, or what the part makes, and a token that goes on, or begins anew.
func TestPowerGoesAnywhere(t *testing.T) {
	for _, x := range deliveries(t) {
		d, v := made(t, 250, x.blocks)
		x.ahead(t, v)
		all, end := aside(t, d)
		for _, p := range x.parts {
			takes(t, all, end, p)
		}
		for i, p := range x.parts {
			behind, its := aside(t, d)
			takes(t, behind, its, p)
			cutTake(t, fmt.Sprintf("%s, part %d", x.what, i), d, behind, p, func(what string, v *vault.Vault, made bool) {
				rest := x.parts[i:]
				if made {
					rest = x.parts[i+1:]
				}
				goesOn(t, what, v, rest, seen(end))
			})
			cutTake(t, fmt.Sprintf("%s, part %d, and all come again", x.what, i), d, behind, p, func(what string, v *vault.Vault, made bool) {
				arrives(t, what, v, x.parts, seen(end))
			})
			d = behind
		}
	}
}

// cutTake does the Take of a part on copies of the disk, the power of which goes at each of its operations, with each way of what stays, and asks that Open finds what was there, or what is behind it, all of it; and hands on the vault, and whether the part is made.
func cutTake(t *testing.T, what string, d, behind *disk.Disk, p api.Part, then func(what string, v *vault.Vault, made bool)) {
	t.Helper()
	was, made := state(opened(t, d.Copy())), state(opened(t, behind.Copy()))
	if was == made {
		t.Fatalf("%s: Take makes nothing", what)
	}
	count := map[bool]int{}
	all := operations(t, d, p)
	for fuse := 1; fuse <= all; fuse++ {
		cut, v := aside(t, d)
		cut.Arm(fuse)
		is(t, what, Take(v, p), api.ErrOff)
		is(t, what+", once more", Take(v, p), api.ErrOff)
		for _, keep := range ways(unflushed(t, all, fuse)) {
			what := fmt.Sprintf("%s with the fuse %d, %v", what, fuse, keep)
			left := cut.Copy()
			left.Wake(keep)
			its := opened(t, left)
			now := state(its)
			if now != was && now != made {
				t.Fatalf("%s: the vault is\n%s, neither\n%s, nor\n%s", what, now, was, made)
			}
			count[now == made]++
			then(what, its, now == made)
		}
	}
	if count[true] == 0 || count[false] == 0 {
		t.Errorf("%s: never as it was, or never as it is made: %v", what, count)
	}
}

// P12.3, W4: the power goes in a great vault, where a record has many sectors; none, all, each one alone, or all but one of the unflushed writes stay.
func TestPowerGoesInGreatVault(t *testing.T) {
	d, v := made(t, 1024, 8)
	base := none
	for n := range uint64(19) {
		g := guid(1<<40, 1+n)
		takes(t, d, v, part(base, g, 0, 2, fmt.Sprintf("%d%c", n%7, 'a'+n)))
		takes(t, d, v, part(base, g, 1, 2, fmt.Sprintf("7%c", 'A'+n)))
		base = g
	}
	l := cuts(t, base, guid(1<<40, 20), changesOf("0A 1B 2C 3D 4E 5F 6G 7H"))
	all, end := aside(t, d)
	for _, p := range l {
		takes(t, all, end, p)
	}
	for i, p := range l {
		behind, its := aside(t, d)
		takes(t, behind, its, p)
		was, made := state(v), state(its)
		count := map[bool]int{}
		for fuse := 1; fuse <= operations(t, d, p); fuse++ {
			cut, lost := aside(t, d)
			cut.Arm(fuse)
			is(t, "Take of "+told(p), Take(lost, p), api.ErrOff)
			for _, keep := range fewWays(fuse) {
				what := fmt.Sprintf("part %d with the fuse %d, %v", i, fuse, keep)
				left := cut.Copy()
				left.Wake(keep)
				its := opened(t, left)
				now := state(its)
				if now != was && now != made {
					t.Fatalf("%s: the vault is\n%s, neither\n%s, nor\n%s", what, now, was, made)
				}
				count[now == made]++
				arrives(t, what, its, l, seen(end))
			}
		}
		if count[true] == 0 || count[false] == 0 {
			t.Errorf("part %d: never as it was, or never as it is made: %v", i, count)
		}
		d, v = behind, its
	}
}

// fewWays answers some of what may stay of up to n unflushed writes.
func fewWays(n int) [][]bool {
	l := [][]bool{nil, slices.Repeat([]bool{true}, n)}
	for i := 0; i < n; i += 1 + n/8 {
		keep, others := make([]bool, n), slices.Repeat([]bool{true}, n)
		keep[i], others[i] = true, false
		l = append(l, keep, others)
	}
	return l
}

// P12.3, W4: a token goes on behind a crash that comes behind a Take, whatever stays: it was flushed.
func TestTokenGoesOn(t *testing.T) {
	for _, x := range volumes {
		d, v := based(t)
		l := cuts(t, one, two, changesOf(x.words))
		for i, p := range l {
			is(t, "Take of "+told(p), Take(v, p), api.OK)
			d.Off()
			d.Wake(nil)
			is(t, "Take behind a crash, of a vault that was not lost", Take(v, p), turn(i, i+1, len(l)))
			v = opened(t, d)
			along(t, x.words+", opened", v, i+1, l, x.whole)
		}
	}
}
