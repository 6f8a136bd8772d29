package fold_test

import (
	"math/rand"
	"slices"
	"testing"

	"windlass/api"
	"windlass/flow"
	"windlass/fold"
	"windlass/verify"
)

// All promises, on units by chance: events one behind the other, each on the state that the one ahead of it left.
func TestByChance(t *testing.T) {
	k := maker{Rand: rand.New(rand.NewSource(143))}
	var s seen
	for range 300 {
		u := k.unit()
		v := passed(t, u)
		c, folded := codeOf(t, u), codeOf(t, v)
		s.folds += changes(u, v)
		state := filled(k.Intn(4))
		for i := range 12 {
			r := k.run()
			if i%3 > 0 {
				r.state = state
			}
			o := wantCodesAlike(t, c, folded, u, v, r)
			s.add(o)
			state = o.State
		}
		if t.Failed() {
			t.FailNow()
		}
	}
	s.wantEnough(t, []int{api.TrapNone, api.TrapOver, api.TrapZero, api.TrapLong, api.TrapFull, api.TrapFuel, api.TrapDepth, api.TrapAsks, api.TrapEmits, api.TrapDelay})
}

// P14.1: units that are spoilt are refused if they are none, or their code is; else they do the same.
func TestSpoilt(t *testing.T) {
	k := maker{Rand: rand.New(rand.NewSource(144))}
	var taken, none, refused int
	for range 1000 {
		u := k.unit()
		for range 1 + k.Intn(2) {
			k.spoil(&u)
		}
		c, err := flow.Flatten(u)
		_, checked := verify.Check(c)
		switch {
		case err != api.OK:
			none++
			wantRefused(t, "no unit", u)
		case checked != api.OK:
			refused++
			wantRefused(t, "no code", u)
		default:
			taken++
			v := passed(t, u)
			for range 3 {
				wantAlike(t, u, v, k.run())
			}
		}
		if t.Failed() {
			t.FailNow()
		}
	}
	t.Logf("%d taken, %d no units, %d refused", taken, none, refused)
	if min(taken, none, refused) < 100 {
		t.Error("too few")
	}
}

// spoil makes something of a unit another number.
func (k maker) spoil(u *api.Unit) {
	list := [][]api.Graph{u.Funcs, u.Events}[k.Intn(2)]
	g := &list[k.Intn(len(list))]
	if len(g.Blocks) == 0 {
		return
	}
	b := &g.Blocks[k.Intn(len(g.Blocks))]
	n := k.Intn(30) - 2
	switch k.Intn(10) {
	case 0:
		*[]*int{&b.A, &b.To, &b.Else, &b.End, &g.Regs}[k.Intn(5)] = n
	case 1:
		u.Ints = u.Ints[:k.Intn(len(u.Ints)+1)]
	case 2:
		g.Blocks = slices.Delete(g.Blocks, 0, k.Intn(2))
	case 3:
		b.End = api.IJump + k.Intn(3)
	default:
		k.spoilOps(b, n)
	}
}

func (k maker) spoilOps(b *api.Block, n int) {
	if len(b.Ops) == 0 {
		return
	}
	at := k.Intn(len(b.Ops))
	o := &b.Ops[at]
	switch k.Intn(5) {
	case 0:
		b.Ops = slices.Delete(b.Ops, at, at+1)
	case 1:
		b.Ops = slices.Insert(b.Ops, at, b.Ops[k.Intn(len(b.Ops))])
	case 2:
		o.Code = 1 + k.Intn(api.IRet)
	case 3:
		*[]*int{&o.D, &o.A, &o.B, &o.K}[k.Intn(4)] = n
	case 4:
		other := k.Intn(len(b.Ops))
		b.Ops[at], b.Ops[other] = b.Ops[other], b.Ops[at]
	}
}

// P14.1: with so many constants beside them that there is no room for some, units by chance do the same; they are told as they are, if nothing else can be done.
func TestByChanceWithLittleRoom(t *testing.T) {
	k := maker{rand.New(rand.NewSource(145)), true}
	var told, spared int
	for range 100 {
		u := k.unit()
		g := &u.Events[onInt]
		*g = graph(1, ret(-1, charged()...))
		roomy := passedOnce(t, u)
		wanted := most - len(roomy.Ints) + 1 + k.Intn(8)
		for i := 0; i < wanted && len(u.Ints) < most; i++ {
			g.Blocks[0].Ops = append(g.Blocks[0].Ops, op(api.IInt, 0, 0, 0, len(u.Ints)))
			u.Ints = append(u.Ints, int64(5000+i))
		}
		v := passedOnce(t, u)
		c, folded := codeOf(t, u), codeOf(t, v)
		switch left := leftOver(v); {
		case left != "":
			told++
			if shown(v) != shown(u) {
				t.Errorf("P14.1: it isn't u")
			}
		case size(folded) < size(c):
			spared++
		}
		for range 12 {
			wantCodesAlike(t, c, folded, u, v, k.run())
		}
		if t.Failed() {
			t.FailNow()
		}
	}
	t.Logf("%d told as they are, %d with fewer instructions", told, spared)
	if min(told, spared) < 20 {
		t.Error("too few")
	}
}

// Of what a unit declares, in order, nothing is lost: names, types, registers, ends of blocks.
func TestTheRestStays(t *testing.T) {
	k := maker{Rand: rand.New(rand.NewSource(146))}
	for range 200 {
		u := k.unit()
		v, _ := fold.Pass(u)
		for i, g := range graphs(u) {
			h := graphs(v)[i]
			if g.Regs != h.Regs || len(g.Blocks) != len(h.Blocks) {
				t.Fatalf("P14.1: %s became %s", unitSpelled(u), unitSpelled(v))
			}
			for j, b := range g.Blocks {
				c := h.Blocks[j]
				if b.End != c.End || b.A != c.A || b.To != c.To || b.Else != c.Else || len(b.Ops) != len(c.Ops) {
					t.Fatalf("P14.1: %s became %s", unitSpelled(u), unitSpelled(v))
				}
			}
		}
	}
}
