package types

import (
	"slices"

	"windlass/api"
)

// block: own: the variables that it begins with.
func (c *checker) block(list []api.Stmt, own map[string]api.Type) bool {
	c.blocks = append(c.blocks, own)
	for i := range list {
		if !c.stmt(&list[i]) {
			return false
		}
	}
	c.blocks = c.blocks[:len(c.blocks)-1]
	return true
}

func (c *checker) stmt(s *api.Stmt) bool {
	switch s.Kind {
	case api.SLet:
		return c.let(s)
	case api.SSet:
		return c.set(s)
	case api.SPut, api.SDel:
		return c.change(s)
	case api.SIf:
		return c.want(s.Args, simple(api.Bool)) && c.block(s.Body, map[string]api.Type{}) && c.block(s.Else, map[string]api.Type{})
	case api.SWhile, api.SEach:
		return c.loop(s)
	case api.SBreak, api.SContinue:
		return c.leave(s)
	case api.SReturn:
		return c.giveBack(s)
	case api.SEmit:
		return c.want(s.Args, simple(api.Text))
	case api.SAfter:
		return c.after(s)
	}
	_, ok := c.all(s.Args) // SDo
	return ok
}

// want: of a statement's expressions each is held against the type that is asked ahead of the next one (P8.1).
func (c *checker) want(list []api.Expr, asked ...api.Type) bool {
	for i := range list {
		t, ok := c.expr(&list[i])
		if !ok {
			return false
		}
		if t != asked[i] {
			return c.fault(list[i].At, api.ErrTypeType)
		}
	}
	return true
}

func (c *checker) let(s *api.Stmt) bool {
	t, ok := c.expr(&s.Args[0])
	switch {
	case !ok:
		return false
	case t.Kind == api.None:
		return c.fault(s.Args[0].At, api.ErrTypeType)
	case c.isTaken(s.Name):
		return c.fault(s.At, api.ErrTypeTwice)
	}
	c.blocks[len(c.blocks)-1][s.Name] = t
	return true
}

func (c *checker) set(s *api.Stmt) bool {
	t, ok := c.variable(s.Name)
	if !ok {
		return c.fault(s.At, api.ErrTypeName)
	}
	return c.want(s.Args, t)
}

func (c *checker) change(s *api.Stmt) bool {
	m, ok := c.mapNamed(s.Name)
	if !ok {
		return c.fault(s.At, api.ErrTypeName)
	}
	return c.want(s.Args, m.Key, m.Value)
}

func (c *checker) loop(s *api.Stmt) bool {
	if s.Label != "" && slices.Contains(c.loops, s.Label) {
		return c.fault(s.At, api.ErrTypeTwice)
	}
	own, ok := c.head(s)
	if !ok {
		return false
	}
	c.loops = append(c.loops, s.Label)
	ok = c.block(s.Body, own)
	c.loops = c.loops[:len(c.loops)-1]
	return ok
}

// head: the variables that the body of a loop begins with.
func (c *checker) head(s *api.Stmt) (map[string]api.Type, bool) {
	if s.Kind == api.SWhile {
		return map[string]api.Type{}, c.want(s.Args, simple(api.Bool))
	}
	m, ok := c.mapNamed(s.Name)
	if !ok {
		return nil, c.fault(s.At, api.ErrTypeName)
	}
	if c.isTaken(s.Var) {
		return nil, c.fault(s.At, api.ErrTypeTwice)
	}
	return map[string]api.Type{s.Var: m.Key}, true
}

func (c *checker) leave(s *api.Stmt) bool {
	if len(c.loops) == 0 || s.Name != "" && !slices.Contains(c.loops, s.Name) {
		return c.fault(s.At, api.ErrTypeLoop)
	}
	return true
}

func (c *checker) giveBack(s *api.Stmt) bool {
	gives, must := len(s.Args) > 0, c.result.Kind != api.None
	if gives != must {
		return c.fault(s.At, api.ErrTypeReturn)
	}
	return c.want(s.Args, c.result)
}

func (c *checker) after(s *api.Stmt) bool {
	sig, ok := sigNamed(c.program.Events, s.Name)
	if !ok {
		return c.fault(s.At, api.ErrTypeName)
	}
	if len(s.Args) != 1+len(sig.Params) {
		return c.fault(s.At, api.ErrTypeCount)
	}
	return c.want(s.Args[:1], simple(api.Int)) && c.want(s.Args[1:], sig.Params...)
}
