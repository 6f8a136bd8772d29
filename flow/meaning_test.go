package flow_test

import (
	"math/rand"
	"slices"
	"strconv"
	"testing"

	"windlass/api"
	"windlass/code"
	"windlass/flow"
)

// P10.3: the code of a graph does what its blocks do. Both are run by machines that only write down what they come by; what a register says when it is asked is drawn beforehand.

// mostSteps: of a machine; a run that isn't at its end then is left there.
const mostSteps = 400

// diary: what a machine came by.
type diary struct {
	lines   []string
	answers []bool
	asked   int
	ended   bool
}

func (d *diary) does(o api.Op) { d.lines = append(d.lines, code.Line(o)) }

// says: what the register says now.
func (d *diary) says(register int) bool {
	answer := d.answers[d.asked%len(d.answers)]
	d.asked++
	d.lines = append(d.lines, "asks "+strconv.Itoa(register))
	return answer
}

func (d *diary) ends(register int) {
	d.lines, d.ended = append(d.lines, "ends with "+strconv.Itoa(register)), true
}

func runBlocks(g api.Graph, answers []bool) *diary {
	d := &diary{answers: answers}
	at := 0
	for range mostSteps {
		b := g.Blocks[at]
		for _, o := range b.Ops {
			d.does(o)
		}
		switch {
		case b.End == api.IRet:
			d.ends(b.A)
			return d
		case b.End == api.IUnless && d.says(b.A):
			at = b.Else
		default:
			at = b.To
		}
	}
	return d
}

func runRow(f api.Fn, answers []bool) *diary {
	d := &diary{answers: answers}
	at := 0
	for range mostSteps {
		o := f.Ops[at]
		at++
		switch o.Code {
		case api.IJump:
			at = o.K
		case api.IUnless:
			if !d.says(o.A) {
				at = o.K
			}
		case api.IRet:
			d.ends(o.A)
			return d
		default:
			d.does(o)
		}
	}
	return d
}

// wantAlike: runs that both come to their end do the same; of one that is left on its way as far as it goes.
func wantAlike(t *testing.T, g api.Graph, f api.Fn, answers []bool) bool {
	t.Helper()
	blocks, row := runBlocks(g, answers), runRow(f, answers)
	length := min(len(blocks.lines), len(row.lines))
	if blocks.ended && row.ended {
		length = max(len(blocks.lines), len(row.lines))
	}
	if len(blocks.lines) < length || len(row.lines) < length || !slices.Equal(blocks.lines[:length], row.lines[:length]) {
		t.Errorf("P10.3: %v: the blocks do %v, the code %v does %v", g, blocks.lines, f.Ops, row.lines)
	}
	return blocks.ended && row.ended
}

func TestMeaning(t *testing.T) {
	k := maker{rand.New(rand.NewSource(105))}
	ended := 0
	for range 20000 {
		g := k.graph(9)
		for i := range g.Blocks {
			g.Blocks[i].Ops = append(g.Blocks[i].Ops, numbered(i))[:len(g.Blocks[i].Ops)+k.Intn(2)]
		}
		f, err := flow.Fn(g)
		if err != api.OK {
			t.Fatalf("%v: %d", g, err)
		}
		answers := make([]bool, 1+k.Intn(9))
		for i := range answers {
			answers[i] = k.Intn(2) == 0
		}
		if wantAlike(t, g, f, answers) {
			ended++
		}
	}
	if ended < 5000 {
		t.Errorf("only %d of 20000 come to their end", ended)
	}
}

// The handlers and functions of a unit stay in their places, each with what its own blocks do.
func TestMeaningOfUnits(t *testing.T) {
	k := maker{rand.New(rand.NewSource(106))}
	for range 1000 {
		u := k.unit()
		c, err := flow.Flatten(u)
		if err != api.OK {
			t.Fatalf("%v: %d", u, err)
		}
		for i, f := range c.Funcs {
			wantAlike(t, u.Funcs[i], f, []bool{true, false, false})
		}
		for i, f := range c.Events {
			wantAlike(t, u.Events[i], f, []bool{false, true})
		}
	}
}
