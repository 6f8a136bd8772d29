package code

import (
	"windlass/api"
	"windlass/codec"
)

// Encode: see the chapter.
func Encode(c api.Code) ([]byte, api.Errno) {
	if !Is(c) {
		return nil, api.ErrCodeForm
	}
	b := appendList(nil, c.Program.Records, appendRecord)
	b = appendList(b, c.Program.Maps, appendMap)
	b = appendList(b, c.Program.Funcs, appendSig)
	b = appendList(b, c.Program.Events, appendSig)
	b = appendList(b, c.Ints, appendInt)
	b = appendList(b, c.Texts, appendText)
	// How many there are of them, the program says.
	for _, f := range functions(c) {
		b = appendList(appendNumber(b, f.Regs), f.Ops, appendOp)
	}
	return b, api.OK
}

// appendList: how many there are, and each of them by one.
func appendList[T any](b []byte, list []T, one func([]byte, T) []byte) []byte {
	b = append(b, codec.PutUint(uint64(len(list)))...)
	for _, x := range list {
		b = one(b, x)
	}
	return b
}

func appendRecord(b []byte, record api.RecordType) []byte {
	b = appendList(appendText(b, record.Name), record.Fields, appendText)
	return appendList(b, record.Types, appendType)
}

func appendMap(b []byte, m api.MapType) []byte {
	return appendType(appendType(appendText(b, m.Name), m.Key), m.Value)
}

func appendSig(b []byte, sig api.Sig) []byte {
	return appendType(appendList(appendText(b, sig.Name), sig.Params, appendType), sig.Result)
}

func appendType(b []byte, t api.Type) []byte { return appendNumber(appendNumber(b, t.Kind), t.Rec) }

// appendOp leaves out the fields that the instruction hasn't: they are 0.
func appendOp(b []byte, o api.Op) []byte {
	s, _ := shapeOf(o.Code)
	b = appendNumber(b, o.Code)
	for r, n := range s.fields(o) {
		if r != absent {
			b = appendNumber(b, n)
		}
	}
	return b
}

func appendNumber(b []byte, n int) []byte { return appendInt(b, int64(n)) }

func appendInt(b []byte, n int64) []byte { return append(b, codec.PutInt(n)...) }

func appendText(b []byte, s string) []byte { return append(b, codec.PutText(s)...) }
