package lower

import (
	"windlass/api"
)

// nothing stands in the place of a register where no value is.
const nothing = -1

// mark: a place among the blocks that may be gone to ahead of its being known.
type mark int

// layout: blocks, one behind the other. Until all stand, their ends name marks in the place of blocks.
type layout struct {
	blocks []api.Block
	open   bool     // whether the last block goes on
	count  int      // of instructions so far; jumps aren't counted, as some need none
	marks  []marked // by their numbers
}

// marked: where a mark stands.
type marked struct {
	block    int
	isWanted bool // something goes there
}

// start begins a new block.
func (l *layout) start() {
	l.blocks = append(l.blocks, api.Block{})
	l.open = true
}

func (l *layout) last() *api.Block { return &l.blocks[len(l.blocks)-1] }

// do: behind a block's end nothing is done.
func (l *layout) do(o api.Op) {
	if l.open {
		l.last().Ops = append(l.last().Ops, o)
		l.count++
	}
}

func (l *layout) newMark() mark {
	l.marks = append(l.marks, marked{})
	return mark(len(l.marks) - 1)
}

// place: what is done next is done where m stands, if anything goes there.
func (l *layout) place(m mark) {
	if l.marks[m].isWanted {
		l.jump(m)
		l.start()
		l.marks[m].block = len(l.blocks) - 1
	}
}

// placeHead: of a loop, which is gone back to.
func (l *layout) placeHead() mark {
	m := l.newMark()
	l.want(m)
	l.place(m)
	return m
}

// want: m's number, for a block's end.
func (l *layout) want(m mark) int {
	l.marks[m].isWanted = true
	return int(m)
}

func (l *layout) jump(m mark) {
	if l.open {
		l.last().End, l.last().To = api.IJump, l.want(m)
		l.open = false
	}
}

// unless goes to ifFalse, if register a is false, else to ifTrue.
func (l *layout) unless(a int, ifFalse, ifTrue mark) {
	if l.open {
		b := l.last()
		b.End, b.A, b.To, b.Else = api.IUnless, a, l.want(ifFalse), l.want(ifTrue)
		l.open = false
		l.count++
	}
}

// end: of the function, with register a.
func (l *layout) end(a int) {
	if l.open {
		l.last().End, l.last().A = api.IRet, a
		l.open = false
		l.count++
	}
}

// finished: the blocks, with blocks' numbers in their ends. Those that do nothing are left out: so there are never more blocks than instructions.
func (l *layout) finished() []api.Block {
	var kept []api.Block
	numbers := make([]int, len(l.blocks))
	for i, b := range l.blocks {
		numbers[i] = len(kept)
		if !doesNothing(b) {
			kept = append(kept, b)
		}
	}
	for i := range kept {
		switch b := &kept[i]; b.End {
		case api.IUnless:
			b.To, b.Else = numbers[l.goal(b.To)], numbers[l.goal(b.Else)]
		case api.IJump:
			b.To = numbers[l.goal(b.To)]
		}
	}
	return kept
}

func doesNothing(b api.Block) bool { return len(b.Ops) == 0 && b.End == api.IJump }

// goal: the first block that does something, from a mark on. A loop's head charges: no way goes round without one.
func (l *layout) goal(m int) int {
	at := l.marks[m].block
	for doesNothing(l.blocks[at]) {
		at = l.marks[l.blocks[at].To].block
	}
	return at
}
