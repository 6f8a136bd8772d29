package fuse_test

import (
	"math/rand"
	"slices"
	"testing"

	"windlass/api"
	"windlass/flow"
	"windlass/fuse"
	"windlass/verify"
)

// All promises, on units by chance: events one behind the other, each on the state that the one ahead of it left.
func TestByChance(t *testing.T) {
	k := maker{rand.New(rand.NewSource(173))}
	var s seen
	for range 200 {
		u := k.unit()
		v := passed(t, u)
		wantModel(t, u, v)
		c, left := codeOf(t, u), codeOf(t, v)
		s.addUnits(u, v)
		state := filled(k.Intn(4))
		for i := range 12 {
			r := k.run()
			if i%3 > 0 {
				r.state = state
			}
			o := wantCodesAlike(t, c, left, u, v, r)
			s.add(o)
			state = o.State
		}
		if t.Failed() {
			t.FailNow()
		}
	}
	s.wantEnough(t, []int{api.TrapNone, api.TrapOver, api.TrapZero, api.TrapLong, api.TrapFull, api.TrapFuel, api.TrapDepth, api.TrapAsks, api.TrapEmits, api.TrapDelay})
}

// wantModel: that it became just what the chapter's words, said over, make of it.
func wantModel(t *testing.T, u, v api.Unit) {
	t.Helper()
	for i, g := range graphs(u) {
		h := graphs(v)[i]
		want := slices.Clone(g.Blocks)
		for at := range want {
			want[at].Ops = modelPass(want[at].Ops)
		}
		if h.Regs != g.Regs || blocksSpelled(h.Blocks) != blocksSpelled(want) {
			t.Errorf("P17.2: function %d:\n%sbecame\n%s, want\n%s", i, blocksSpelled(g.Blocks), blocksSpelled(h.Blocks), blocksSpelled(want))
		}
	}
	if !slices.Equal(u.Ints, v.Ints) || !slices.Equal(u.Texts, v.Texts) {
		t.Error("other constants")
	}
}

// P17.1: units that are spoilt are refused if they are none, or their code is; else they do the same.
func TestSpoilt(t *testing.T) {
	k := maker{rand.New(rand.NewSource(174))}
	var taken, none, refused int
	for range 800 {
		u := k.unit()
		for range 1 + k.Intn(2) {
			k.spoil(&u)
		}
		c, err := flow.Flatten(u)
		_, checked := verify.Check(c)
		switch {
		case err != api.OK:
			none++
			wantRefused(t, "no unit", u)
		case checked != api.OK:
			refused++
			wantRefused(t, "no code", u)
		default:
			taken++
			v := passed(t, u)
			for range 3 {
				wantAlike(t, u, v, k.run())
			}
		}
		if t.Failed() {
			t.FailNow()
		}
	}
	t.Logf("%d taken, %d no units, %d refused", taken, none, refused)
	if min(taken, none, refused) < 80 {
		t.Error("too few")
	}
}

// spoil makes something of a unit another number.
func (k maker) spoil(u *api.Unit) {
	list := [][]api.Graph{u.Funcs, u.Events}[k.Intn(2)]
	g := &list[k.Intn(len(list))]
	if len(g.Blocks) == 0 {
		return
	}
	b := &g.Blocks[k.Intn(len(g.Blocks))]
	n := k.Intn(30) - 2
	switch k.Intn(10) {
	case 0:
		*[]*int{&b.A, &b.To, &b.Else, &b.End, &g.Regs}[k.Intn(5)] = n
	case 1:
		u.Ints = u.Ints[:k.Intn(len(u.Ints)+1)]
	case 2:
		g.Blocks = slices.Delete(g.Blocks, 0, k.Intn(2))
	case 3:
		b.End = api.IJump + k.Intn(3)
	default:
		k.spoilOps(b, n)
	}
}

func (k maker) spoilOps(b *api.Block, n int) {
	if len(b.Ops) == 0 {
		return
	}
	at := k.Intn(len(b.Ops))
	o := &b.Ops[at]
	switch k.Intn(5) {
	case 0:
		b.Ops = slices.Delete(b.Ops, at, at+1)
	case 1:
		b.Ops = slices.Insert(b.Ops, at, b.Ops[k.Intn(len(b.Ops))])
	case 2:
		o.Code = 1 + k.Intn(api.IRet)
	case 3:
		*[]*int{&o.D, &o.A, &o.B, &o.K}[k.Intn(4)] = n
	case 4:
		other := k.Intn(len(b.Ops))
		b.Ops[at], b.Ops[other] = b.Ops[other], b.Ops[at]
	}
}

// P17.1: what layer 11 tells of a unit's types, heights and jumps hangs on what goes, too: graphs of few instructions, each with registers of any type.
func TestSmallByChance(t *testing.T) {
	k := maker{rand.New(rand.NewSource(175))}
	taken := 0
	for range 14000 {
		u := k.small()
		c, err := flow.Flatten(u)
		if _, checked := verify.Check(c); err != api.OK || checked != api.OK {
			wantRefused(t, "small", u)
			continue
		}
		taken++
		v := passed(t, u)
		wantModel(t, u, v)
		for range 2 {
			wantAlike(t, u, v, k.run())
		}
		if t.Failed() {
			t.FailNow()
		}
	}
	t.Logf("%d taken", taken)
	if taken < 1000 {
		t.Error("too few")
	}
}

// small: e has a few blocks, of instructions by chance on registers 0 to 4.
func (k maker) small() api.Unit {
	var s sheet
	blocks := make([]api.Block, 1+k.Intn(5))
	for i := range blocks {
		b := &blocks[i]
		if i == 0 || k.Intn(3) > 0 {
			b.Ops = charged()
		}
		for range k.Intn(7) {
			d, a := k.Intn(5), k.Intn(5)
			table := []int{numbers, numbers, truths, texts, pairs}[k.Intn(5)]
			read := get(d, a, table)
			b.Ops = append(b.Ops, []api.Op{
				read, read, read, read, s.num(d, 1), s.text(d, "x"), be(d, 1), move(d, a), op(api.IEq, d, a, a), op(api.INext, d, a, k.Intn(5), table), put(a, d, table), del(a, table),
				op(api.IEmit, 0, a), op(api.ICall, d, a, 0, fnSay), op(api.ICall, -1, 0, 0, fnNothing), op(api.IEnter), op(api.ILeave),
			}[k.Intn(17)])
		}
		switch next := k.Intn(len(blocks)); k.Intn(4) {
		case 0:
			b.End, b.A = api.IRet, -1
		case 1:
			b.End, b.To = api.IJump, next
		default:
			b.End, b.A, b.To, b.Else = api.IUnless, []int{2, k.Intn(5)}[k.Intn(2)], next, k.Intn(len(blocks))
		}
	}
	u := s.unit(blocks...)
	u.Events[onE].Regs = 5
	return u
}

// What a unit declares, its constants, how many registers there are, and where its blocks go stays; so does each block without a read that was done before.
func TestTheRestStays(t *testing.T) {
	k := maker{rand.New(rand.NewSource(176))}
	for range 200 {
		u := k.unit()
		v, _ := fuse.Pass(u)
		if shown(v.Program) != shown(u.Program) || !slices.Equal(v.Ints, u.Ints) || !slices.Equal(v.Texts, u.Texts) {
			t.Fatalf("P17.1: %s became %s", unitSpelled(u), unitSpelled(v))
		}
		for i, g := range graphs(u) {
			h := graphs(v)[i]
			if g.Regs != h.Regs || len(g.Blocks) != len(h.Blocks) {
				t.Fatalf("P17.1: %s became %s", unitSpelled(u), unitSpelled(v))
			}
			for at, b := range g.Blocks {
				c := h.Blocks[at]
				if countOf(b.Ops, api.IGet) == countOf(c.Ops, api.IGet) && shown(b) != shown(c) || b.End != c.End || b.A != c.A || b.To != c.To || b.Else != c.Else {
					t.Fatalf("P17.1: %s became %s", shown(b), shown(c))
				}
			}
		}
	}
}

// countOf: how many instructions of a sort there are.
func countOf(ops []api.Op, code int) int {
	count := 0
	for _, o := range ops {
		if o.Code == code {
			count++
		}
	}
	return count
}
