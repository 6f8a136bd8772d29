package code

import (
	"slices"

	"windlass/api"
)

// Same: see the chapter.
func Same(a, b api.Code) bool {
	return sameProgram(a.Program, b.Program) && slices.Equal(a.Ints, b.Ints) && slices.Equal(a.Texts, b.Texts) &&
		slices.EqualFunc(a.Funcs, b.Funcs, sameFn) && slices.EqualFunc(a.Events, b.Events, sameFn)
}

func sameProgram(a, b api.Program) bool {
	return slices.EqualFunc(a.Records, b.Records, sameRecord) && slices.Equal(a.Maps, b.Maps) &&
		slices.EqualFunc(a.Funcs, b.Funcs, sameSig) && slices.EqualFunc(a.Events, b.Events, sameSig)
}

func sameRecord(a, b api.RecordType) bool {
	return a.Name == b.Name && slices.Equal(a.Fields, b.Fields) && slices.Equal(a.Types, b.Types)
}

func sameSig(a, b api.Sig) bool {
	return a.Name == b.Name && slices.Equal(a.Params, b.Params) && a.Result == b.Result
}

func sameFn(a, b api.Fn) bool { return a.Regs == b.Regs && slices.Equal(a.Ops, b.Ops) }
