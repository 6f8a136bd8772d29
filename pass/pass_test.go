package pass_test

import (
	"reflect"
	"strings"
	"testing"
	"unsafe"

	"windlass/api"
	"windlass/pass"
)

// unit: one that is taken, with something of all that a unit may have.
func unit() api.Unit {
	number, words := api.Type{Kind: api.Int}, api.Type{Kind: api.Text}
	p := api.Program{
		Records: []api.RecordType{{Name: "Pair", Fields: []string{"left", "right"}, Types: []api.Type{number, words}}},
		Maps:    []api.MapType{{Name: "many", Key: number, Value: words}},
		Funcs:   []api.Sig{{Name: "same", Params: []api.Type{number}, Result: number}},
		Events:  []api.Sig{{Name: "come", Params: []api.Type{words, number}}, {Name: "gone"}},
	}
	charge := api.Op{Code: api.ICharge}
	return api.Unit{
		Program: p, Ints: []int64{5, -5}, Texts: []string{"some", "more"},
		Funcs: []api.Graph{{Regs: 1, Blocks: []api.Block{{Ops: []api.Op{charge}, End: api.IRet, A: 0}}}},
		Events: []api.Graph{
			{Regs: 3, Blocks: []api.Block{
				{Ops: []api.Op{charge, {Code: api.IBool, D: 2, K: 1}}, End: api.IUnless, A: 2, To: 1, Else: 2},
				{Ops: []api.Op{{Code: api.IEmit, A: 0}}, End: api.IJump, To: 2}, {End: api.IRet, A: -1},
			}},
			{Blocks: []api.Block{{Ops: []api.Op{charge}, End: api.IRet, A: -1}}},
		},
	}
}

func TestTaken(t *testing.T) {
	for _, u := range []api.Unit{{}, unit()} {
		taken, err := pass.Take(u)
		if err != api.OK || !reflect.DeepEqual(taken, u) {
			t.Errorf("%d: %v, want %v", err, taken, u)
		}
	}
}

func TestRefused(t *testing.T) {
	for what, spoil := range map[string]func(u *api.Unit){
		"no blocks":      func(u *api.Unit) { u.Funcs[0].Blocks = nil },
		"a graph more":   func(u *api.Unit) { u.Events = append(u.Events, u.Events[1]) },
		"a long text":    func(u *api.Unit) { u.Texts[1] = strings.Repeat("x", 65) },
		"no charge":      func(u *api.Unit) { u.Events[1].Blocks[0].Ops = nil },
		"another type":   func(u *api.Unit) { u.Events[0].Blocks[1].Ops[0].A = 1 },
		"an open call":   func(u *api.Unit) { u.Events[0].Blocks[1].Ops[0] = api.Op{Code: api.IEnter} },
		"round for ever": func(u *api.Unit) { u.Events[0].Blocks[1].To = 1 },
	} {
		u := unit()
		spoil(&u)
		if taken, err := pass.Take(u); err != api.ErrFlowForm || !reflect.DeepEqual(taken, api.Unit{}) {
			t.Errorf("%s: %d, %v", what, err, taken)
		}
	}
}

// addresses: where lists and texts begin.
func addresses(v reflect.Value, met map[uintptr]int) {
	switch v.Kind() {
	case reflect.String:
		if v.Len() > 0 {
			met[uintptr(unsafe.Pointer(unsafe.StringData(v.String())))]++
		}
	case reflect.Slice:
		if v.Cap() > 0 {
			met[v.Pointer()]++
		}
		for i := range v.Len() {
			addresses(v.Index(i), met)
		}
	case reflect.Struct:
		for i := range v.NumField() {
			addresses(v.Field(i), met)
		}
	}
}

// What is told is new memory, also where lists of what is handed in are one.
func TestNewMemory(t *testing.T) {
	u := unit()
	u.Events[0].Blocks[1].Ops = u.Events[0].Blocks[0].Ops[:1]
	u.Funcs[0].Blocks = append(u.Funcs[0].Blocks, u.Events[1].Blocks...)
	u.Funcs[0].Blocks[1].A = 0
	u.Texts[0] = u.Program.Maps[0].Name
	one, err := pass.Take(u)
	other, _ := pass.Take(u)
	if err != api.OK {
		t.Fatal(err)
	}
	mine, others := map[uintptr]int{}, map[uintptr]int{}
	addresses(reflect.ValueOf(one), mine)
	addresses(reflect.ValueOf(other), others)
	addresses(reflect.ValueOf(u), others)
	for at, count := range mine {
		if count > 1 || others[at] > 0 {
			t.Error("memory that is shared")
		}
	}
}
