package parse

import "windlass/api"

// between: what stands between two signs.
func between[T any](p *parser, from, to string, inner func() T) T {
	if !p.is(from) {
		panic(p.wrong())
	}
	p.enter()
	x := inner()
	p.want(to)
	p.leave()
	return x
}

// row: one element or more, with commas between.
func row[T any](p *parser, element func() T) []T {
	var list []T
	for {
		p.surplus = len(list) == api.MaxItems
		list = append(list, element())
		if !p.maybe(",") {
			return list
		}
	}
}

// rowBetween: a row between two signs.
func rowBetween[T any](p *parser, from, to string, element func() T) []T {
	return between(p, from, to, func() []T { return row(p, element) })
}

// rowOrNone: likewise, but there may be nothing between the signs.
func rowOrNone[T any](p *parser, from, to string, element func() T) []T {
	return between(p, from, to, func() []T {
		if p.is(to) {
			return nil
		}
		return row(p, element)
	})
}
