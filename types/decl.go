package types

import (
	"slices"
	"strings"

	"windlass/api"
)

func (c *checker) declareRecord(d *api.Decl) bool {
	if _, taken := c.typeNamed(d.Name); taken || isNamedTwice(d.Params) {
		return c.fault(d.At, api.ErrTypeTwice)
	}
	record := api.RecordType{Name: strings.Clone(d.Name)}
	for _, field := range d.Params {
		t, _ := c.typeNamed(field.Type) // a field's type is simple, and so it is there
		record.Fields = append(record.Fields, strings.Clone(field.Name))
		record.Types = append(record.Types, t)
	}
	c.program.Records = append(c.program.Records, record)
	return true
}

func isNamedTwice(params []api.Param) bool {
	for i, param := range params {
		if slices.ContainsFunc(params[:i], func(earlier api.Param) bool { return earlier.Name == param.Name }) {
			return true
		}
	}
	return false
}

func (c *checker) declareMap(d *api.Decl) bool {
	if _, taken := c.mapNamed(d.Name); taken {
		return c.fault(d.At, api.ErrTypeTwice)
	}
	key, _ := c.typeNamed(d.Key) // simple, and so it is there
	value, ok := c.typeNamed(d.Value)
	if !ok {
		return c.fault(d.At, api.ErrTypeName)
	}
	c.program.Maps = append(c.program.Maps, api.MapType{Name: strings.Clone(d.Name), Key: key, Value: value})
	return true
}

func (c *checker) declareFunc(d *api.Decl) bool { return c.declareSig(d, &c.program.Funcs) }

func (c *checker) declareEvent(d *api.Decl) bool { return c.declareSig(d, &c.program.Events) }

// declareSig: of a function or a handler, behind the earlier ones of its sort.
func (c *checker) declareSig(d *api.Decl, earlier *[]api.Sig) bool {
	if _, taken := sigNamed(*earlier, d.Name); taken || isNamedTwice(d.Params) || slices.ContainsFunc(d.Params, c.isNamedAsMap) {
		return c.fault(d.At, api.ErrTypeTwice)
	}
	sig := api.Sig{Name: strings.Clone(d.Name)}
	for _, param := range d.Params {
		t, ok := c.typeNamed(param.Type)
		if !ok {
			return c.fault(d.At, api.ErrTypeName)
		}
		sig.Params = append(sig.Params, t)
	}
	if d.Result != "" {
		t, ok := c.typeNamed(d.Result)
		if !ok {
			return c.fault(d.At, api.ErrTypeName)
		}
		sig.Result = t
	}
	*earlier = append(*earlier, sig)
	return true
}

func (c *checker) isNamedAsMap(param api.Param) bool {
	_, ok := c.mapNamed(param.Name)
	return ok
}

func (c *checker) funcBody(d *api.Decl) bool { return c.body(d, c.program.Funcs) }

func (c *checker) eventBody(d *api.Decl) bool { return c.body(d, c.program.Events) }

func (c *checker) body(d *api.Decl, sigs []api.Sig) bool {
	sig, _ := sigNamed(sigs, d.Name) // it is declared by now
	params := map[string]api.Type{}
	for i, param := range d.Params {
		params[param.Name] = sig.Params[i]
	}
	c.result = sig.Result
	if !c.block(d.Body, params) {
		return false
	}
	if d.Result != "" && !ends(d.Body) {
		return c.fault(d.At, api.ErrTypeReturn)
	}
	return true
}

// ends: whether a body can't be run through to its end.
func ends(body []api.Stmt) bool {
	if len(body) == 0 {
		return false
	}
	last := &body[len(body)-1]
	return last.Kind == api.SReturn || last.Kind == api.SIf && ends(last.Body) && ends(last.Else)
}
