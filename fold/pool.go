package fold

import (
	"strings"
)

// maxConstants: of a sort, that code may have.
const maxConstants = 1000

// pool: the constants of a sort that are used, each once, in the order in which they are met.
type pool[T comparable] struct {
	list    []T
	numbers map[T]int
}

func newPool[T comparable]() pool[T] { return pool[T]{numbers: map[T]int{}} }

func (p *pool[T]) numberOf(x T) int {
	n, isThere := p.numbers[x]
	if !isThere {
		n = len(p.list)
		p.numbers[x] = n
		p.list = append(p.list, x)
	}
	return n
}

func (p *pool[T]) isTooGreat() bool { return len(p.list) > maxConstants }

// newTexts: digits that the library writes may lie where it keeps them for all.
func newTexts(list []string) []string {
	var fresh []string
	for _, s := range list {
		fresh = append(fresh, strings.Clone(s))
	}
	return fresh
}
