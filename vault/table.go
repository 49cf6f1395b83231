package vault

import (
	"cmp"
	"slices"

	"stemma/api"
	"stemma/frame"
	"stemma/meta"
)

// table is what a vault's table says (api.Meta), out of reach of who has the vault. Its lists and images are never written into: a change makes other ones.
type table struct {
	live  []int
	snaps []api.Snap
	token api.Token
}

// effect is a part of what comes of a change: it makes a copy of the table another one.
type effect func(next *table)

// lives makes the live volume what lies in the places.
func lives(places []int) effect {
	return func(next *table) { next.live = copied(places) }
}

// adds makes what lies in the places a snapshot g, behind the others.
func adds(g api.Guid, places []int) effect {
	return func(next *table) {
		n := len(next.snaps)
		next.snaps = append(next.snaps[:n:n], api.Snap{Guid: g, Image: copied(places)})
	}
}

// keeps makes the first n snapshots all that there are.
func keeps(n int) effect {
	return func(next *table) { next.snaps = next.snaps[:n:n] }
}

// hides makes the n-th snapshot hidden.
func hides(n int) effect {
	return func(next *table) {
		next.snaps = slices.Clone(next.snaps)
		next.snaps[n].Hidden = true
	}
}

// stages makes t what came in part.
func stages(t api.Token) effect {
	return func(next *table) {
		next.token = t
		next.token.Image = copied(t.Image)
	}
}

// tableOf answers the table that m says.
func tableOf(m api.Meta) table { return table{live: m.Live, snaps: m.Snaps, token: m.Token} }

// writes answers what lays the table on a disk: its text's sectors, from Home on.
func (t table) writes() ([]api.Write, api.Errno) {
	text, e := meta.Encode(api.Meta{Live: t.live, Snaps: t.snaps, Token: t.token})
	if e != api.OK {
		return nil, e
	}
	sectors, e := frame.Pack(text)
	if e != api.OK {
		return nil, e
	}
	l := make([]api.Write, len(sectors))
	for i, data := range sectors {
		l[i] = api.Write{At: api.Home + i, Data: data}
	}
	return l, api.OK
}

// images answers all images: none of the sectors that are in them is free.
func (t table) images() [][]int {
	l := [][]int{t.live, t.token.Image}
	for _, s := range t.snaps {
		l = append(l, s.Image)
	}
	return l
}

// guids answers those of all snapshots, in order.
func (t table) guids() []api.Guid {
	var l []api.Guid
	for _, s := range t.snaps {
		l = append(l, s.Guid)
	}
	return l
}

// last answers the last snapshot's guid; without snapshots that of none: all others are above it.
func (t table) last() api.Guid {
	if len(t.snaps) == 0 {
		return api.Guid{}
	}
	return t.snaps[len(t.snaps)-1].Guid
}

// base answers the image of the last one of the first n snapshots; zeros, if these are none.
func (t table) base(n int) []int {
	if n == 0 {
		return make([]int, len(t.live))
	}
	return t.snaps[n-1].Image
}

// staged answers the image that the changes of such a token go on from.
func (t table) staged(k api.Token) []int {
	if t.token.Base == k.Base && t.token.Target == k.Target && t.token.All == k.All {
		return t.token.Image
	}
	return t.base(len(t.snaps))
}

// tokenIsNone tells whether nothing came in part.
func (t table) tokenIsNone() bool { return t.token.Target == api.Guid{} }

// find answers which one the snapshot g is; an error, if it is not there, or hidden.
func (t table) find(g api.Guid) (int, api.Errno) {
	n := slices.IndexFunc(t.snaps, func(s api.Snap) bool { return s.Guid == g })
	switch {
	case n < 0:
		return 0, api.ErrNone
	case t.snaps[n].Hidden:
		return 0, api.ErrGone
	}
	return n, api.OK
}

// takes tells whether the changes rise, and are of blocks that there are, with a block's bytes each.
func (t table) takes(changes []api.Change) bool {
	least := 0 // the first block that rises behind the changes so far
	for _, x := range changes {
		if x.Block < least || x.Block >= len(t.live) || len(x.Data) != api.Sector {
			return false
		}
		least = x.Block + 1
	}
	return true
}

// mayAdd answers OK, if there may be a snapshot g behind the others.
func (t table) mayAdd(g api.Guid) api.Errno {
	switch {
	case !above(g, t.last()):
		return api.ErrArg
	case len(t.snaps) >= api.MaxSnaps:
		return api.ErrLong
	}
	return api.OK
}

// mayStage answers OK, if the changes may make what came in part k, or a snapshot.
func (t table) mayStage(k api.Token, changes []api.Change) api.Errno {
	switch {
	case k.Base != t.last(), !above(k.Target, k.Base):
		return api.ErrArg
	case k.Next < 0, k.Next > k.All, k.All > len(t.live):
		return api.ErrArg
	case (k.Next == 0) != (k.All == 0), !t.takes(changes):
		return api.ErrArg
	case k.Next == k.All:
		return t.mayAdd(k.Target)
	}
	return api.OK
}

// above tells whether g is above other.
func above(g, other api.Guid) bool {
	return cmp.Or(cmp.Compare(g.Epoch, other.Epoch), cmp.Compare(g.Count, other.Count)) > 0
}

// copied answers an image in memory of its own.
func copied(places []int) []int {
	l := make([]int, len(places))
	copy(l, places)
	return l
}
