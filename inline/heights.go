package inline

import (
	"windlass/api"
)

// notMet: the height of a block to which no way comes: layer 11 tells none, and asks nothing there.
const notMet = -1

// heights: of each block how many calls its own IEnter have left open at its beginning. In code that was taken all ways to it tell the same.
func heights(blocks []api.Block) []int {
	var list, open []int
	for range blocks {
		list = append(list, notMet)
	}
	come := func(to, height int) {
		if list[to] == notMet {
			list[to] = height
			open = append(open, to)
		}
	}
	come(0, 0)
	for len(open) > 0 {
		b := blocks[open[len(open)-1]]
		height := list[open[len(open)-1]]
		open = open[:len(open)-1]
		for _, o := range b.Ops {
			height = behind(o, height)
		}
		switch b.End {
		case api.IUnless:
			come(b.Else, height)
			come(b.To, height)
		case api.IJump:
			come(b.To, height)
		}
	}
	return list
}

// behind: the height behind an instruction.
func behind(o api.Op, height int) int {
	switch o.Code {
	case api.IEnter:
		return height + 1
	case api.ILeave:
		return height - 1
	}
	return height
}
