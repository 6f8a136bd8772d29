package code

import (
	"windlass/api"
	"windlass/codec"
)

// Decode: see the chapter.
func Decode(b []byte) (api.Code, api.Errno) {
	r := reader{left: b}
	var c api.Code
	c.Program.Records = readList(&r, api.MaxDecls, r.record)
	c.Program.Maps = readList(&r, api.MaxDecls, r.mapType)
	c.Program.Funcs = readList(&r, api.MaxDecls, r.sig)
	c.Program.Events = readList(&r, api.MaxDecls, r.sig)
	c.Ints = readList(&r, maxConstants, r.integer)
	c.Texts = readList(&r, maxConstants, r.text)
	c.Funcs = r.functions(c.Program.Funcs)
	c.Events = r.functions(c.Program.Events)
	// Numbers and texts have one spelling each: a code that was read to the last byte has just these bytes.
	if r.failed || len(r.left) > 0 || !Is(c) {
		return api.Code{}, api.ErrCodeForm
	}
	return c, api.OK
}

// reader: once it has failed nothing is left, so that all that is read behind it fails, too.
type reader struct {
	left   []byte
	failed bool
}

func (r *reader) fail() { r.left, r.failed = nil, true }

// readOne reads by a function of layer 2, which tells how many bytes it took.
func readOne[T any](r *reader, read func([]byte) (T, int, api.Errno)) T {
	x, size, err := read(r.left)
	if err != api.OK {
		r.fail()
		return x
	}
	r.left = r.left[size:]
	return x
}

// readList: the bound keeps a number that anyone may have written from being gone through.
func readList[T any](r *reader, most uint64, one func() T) []T {
	var list []T
	for range r.count(most) {
		x := one()
		if r.failed {
			return nil
		}
		list = append(list, x)
	}
	return list
}

func (r *reader) count(most uint64) uint64 {
	n := readOne(r, codec.Uint)
	if n > most {
		r.fail()
		return 0
	}
	return n
}

func (r *reader) integer() int64 { return readOne(r, codec.Int) }

func (r *reader) text() string { return readOne(r, codec.Text) }

// number: none of a code is below that of nothing, or above that of its last instruction; so it always fits.
func (r *reader) number() int {
	n := r.integer()
	if n < nothing || n > api.MaxOps {
		r.fail()
		return 0
	}
	return int(n)
}

func (r *reader) record() api.RecordType {
	return api.RecordType{Name: r.text(), Fields: readList(r, api.MaxItems, r.text), Types: readList(r, api.MaxItems, r.oneType)}
}

func (r *reader) mapType() api.MapType {
	return api.MapType{Name: r.text(), Key: r.oneType(), Value: r.oneType()}
}

func (r *reader) sig() api.Sig {
	return api.Sig{Name: r.text(), Params: readList(r, api.MaxItems, r.oneType), Result: r.oneType()}
}

func (r *reader) oneType() api.Type { return api.Type{Kind: r.number(), Rec: r.number()} }

// functions: as many as are declared, or fewer, if it fails.
func (r *reader) functions(declared []api.Sig) []api.Fn {
	var list []api.Fn
reading:
	for range declared {
		f := api.Fn{Regs: r.number()}
		for range r.count(api.MaxOps) {
			o, ok := r.op()
			if !ok {
				break reading
			}
			f.Ops = append(f.Ops, o)
		}
		list = append(list, f)
	}
	return list
}

func (r *reader) op() (api.Op, bool) {
	code := r.number()
	s, isCode := shapeOf(code)
	if !isCode {
		r.fail()
	}
	o := api.Op{Code: code, D: r.field(s.d), A: r.field(s.a), B: r.field(s.b), K: r.field(s.k)}
	return o, !r.failed
}

func (r *reader) field(what role) int {
	if what == absent {
		return 0
	}
	return r.number()
}
