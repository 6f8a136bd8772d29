package value

import (
	"iter"
	"slices"

	"windlass/api"
)

// Right: see the chapter.
func Right(p api.Program) bool {
	return rightRecords(p.Records) && rightMaps(p) && rightSigs(p, p.Funcs) && rightSigs(p, p.Events) && answerNothing(p.Events)
}

func rightRecords(records []api.RecordType) bool {
	if len(records) > api.MaxDecls {
		return false
	}
	var names []string
	for _, record := range records {
		if !rightFields(record) {
			return false
		}
		names = append(names, record.Name)
	}
	return rightNames(names, isGreat)
}

func rightFields(record api.RecordType) bool {
	count := len(record.Fields)
	if count < 1 || count > api.MaxItems || count != len(record.Types) {
		return false
	}
	for _, t := range fieldTypes(record) {
		if !isSimple(t) {
			return false
		}
	}
	return rightNames(record.Fields, isSmall)
}

// fieldTypes: of each field its number and its type, None where the record has fewer types than fields.
func fieldTypes(record api.RecordType) iter.Seq2[int, api.Type] {
	return func(yield func(int, api.Type) bool) {
		for i := range record.Fields {
			var t api.Type
			if i < len(record.Types) {
				t = record.Types[i]
			}
			if !yield(i, t) {
				return
			}
		}
	}
}

func rightMaps(p api.Program) bool {
	if len(p.Maps) > api.MaxDecls {
		return false
	}
	var names []string
	for _, m := range p.Maps {
		if !isKey(m.Key) || !isType(p, m.Value) {
			return false
		}
		names = append(names, m.Name)
	}
	return rightNames(names, isSmall)
}

func rightSigs(p api.Program, sigs []api.Sig) bool {
	if len(sigs) > api.MaxDecls {
		return false
	}
	var names []string
	for _, sig := range sigs {
		if len(sig.Params) > api.MaxItems || !isNone(sig.Result) && !isType(p, sig.Result) {
			return false
		}
		for _, param := range sig.Params {
			if !isType(p, param) {
				return false
			}
		}
		names = append(names, sig.Name)
	}
	return rightNames(names, isSmall)
}

func answerNothing(handlers []api.Sig) bool {
	for _, handler := range handlers {
		if !isNone(handler.Result) {
			return false
		}
	}
	return true
}

func isNone(t api.Type) bool { return t == api.Type{} }

func isType(p api.Program, t api.Type) bool {
	if t.Kind == api.Record {
		return 0 <= t.Rec && t.Rec < len(p.Records)
	}
	return isSimple(t)
}

// isSimple: whether it is a type that a field may have.
func isSimple(t api.Type) bool { return isKey(t) || t == api.Type{Kind: api.Bool} }

func isKey(t api.Type) bool { return t == api.Type{Kind: api.Int} || t == api.Type{Kind: api.Text} }

// rightNames: whether they are names, unlike one another, whose first bytes may be there.
func rightNames(names []string, mayBegin func(byte) bool) bool {
	for i, name := range names {
		if !isName(name) || !mayBegin(name[0]) || slices.Contains(names[:i], name) {
			return false
		}
	}
	return true
}

func isName(s string) bool {
	if len(s) < 1 || len(s) > api.MaxName {
		return false
	}
	for _, c := range []byte(s) {
		if !isSmall(c) && !isGreat(c) && (c < '0' || c > '9') {
			return false
		}
	}
	return true
}

// isSmall: whether a name that isn't a record's may begin with it.
func isSmall(c byte) bool { return 'a' <= c && c <= 'z' || c == '_' }

// isGreat: whether a record's name may begin with it.
func isGreat(c byte) bool { return 'A' <= c && c <= 'Z' }
