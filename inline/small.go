package inline

import (
	"windlass/api"
)

// maxSmall: instructions of a small function, its IRet with them.
const maxSmall = 8

// smallOnes: the functions whose calls are laid in, by their numbers. As none calls another one, what is laid in has no call within.
func smallOnes(funcs []api.Graph) map[int]api.Graph {
	small := map[int]api.Graph{}
seeking:
	for n, g := range funcs {
		if len(g.Blocks) > 1 || g.Blocks[0].End != api.IRet || len(g.Blocks[0].Ops)+1 > maxSmall {
			continue seeking
		}
		for _, o := range g.Blocks[0].Ops {
			if o.Code == api.ICall || o.Code == api.IEnter {
				continue seeking
			}
		}
		small[n] = g
	}
	return small
}
