package lower_test

import (
	"fmt"
	"strconv"
	"strings"
	"testing"

	"windlass/api"
)

// slots: statements in which each #i, #s, #b, #p stands for an expression of that type; they are come to in the order in which they are written.
func slots() []string {
	list := []string{
		"do #s & #s;", "emit #s & (#s & #s) & #s;", "do #s == #s;", "do #s != #s;", "do #b == #b;", "do #b != #b;",
		"do four(#i, #i, #i, #i);", "do four(four(#i, #i, #i, #i), #i, four(#i, #i, #i, #i), #i);", "let k = four(#i, four(#i, #i, #i, #i), #i, #i) + #i;",
		"m[#i] = #i;", "n[#s] = #p;", "m[m[#i]] = m[#i] - #i;", "q[#i] = Q{b: #i, a: #i, d: #i, c: #i};",
		"after #i u();", "after #i v(#i);", "after #i y(#i, #s, #p, #b);", "after #i + #i y(#i + #i, #s & #s, #p, #b == #b);",
		"do m[#i] + m[#i];", "do has m[#i] == has m[#i];", "do #p.x + #p.x;", "do - (#i) * - (#i);", "do (not (#b)) == (not (#b));", "do len(#s) + len(#s);", "do str(#i) & str(#i);",
		"do #i - #i - #i - #i;", "do #i - (#i - (#i - #i));", "do (#i - #i) - (#i - #i);",
		"do #b and #b and (#b and #b);", "do not (#b) or not (#b) or (not (#b) or #b);", "do (#b and #b) == (not (#b) or #b);",
		"let k = #i; k = k * #i + #i; m[k] = k + #i;", "let k = #b; k = k and #b and k and #b;",
		"do #i; do #s; do #b; do #p;", "del m[#i]; emit #s; m[#i] = #i; let k = #p; do k.x + #i;",
		"if #b { do #i; } else { do 1 / 0; } do #i;", "if #i == 100 { do 1 / 0; } else { do #i; } do #i;", "while #b { do #i; break; } do #i;",
		"do ask port(#s) & ask port(#s);",
	}
	for _, op := range strings.Fields("+ - * +% -% *% / % == != < <= > >=") {
		list = append(list, "do #i "+op+" #i;")
	}
	for _, op := range strings.Fields("< <= > >=") {
		list = append(list, "do #s "+op+" #s;")
	}
	for _, order := range []string{"xsb", "xbs", "sxb", "sbx", "bxs", "bsx"} {
		list = append(list, "do "+written("P", map[string]string{"x": "#i", "s": "#s", "b": "#b"}, order)+";")
	}
	for _, order := range ordersOf("abcd") {
		list = append(list, "q[#i] = "+written("Q", map[string]string{"a": "#i", "b": "#i", "c": "#i", "d": "#i"}, order)+";")
	}
	return list
}

func ordersOf(letters string) []string {
	if letters == "" {
		return []string{""}
	}
	var list []string
	for i := range letters {
		for _, rest := range ordersOf(letters[:i] + letters[i+1:]) {
			list = append(list, letters[i:i+1]+rest)
		}
	}
	return list
}

// written: a record with its fields in an order.
func written(name string, fields map[string]string, order string) string {
	var list []string
	for _, field := range strings.Split(order, "") {
		list = append(list, field+": "+fields[field])
	}
	return name + "{" + strings.Join(list, ", ") + "}"
}

// filled: the statements, with what is told for each slot by its number (from 1 on) and type.
func filled(statements string, with func(slot int, kind string) string) (string, int) {
	parts := strings.Split(statements, "#")
	out := parts[0]
	for i, part := range parts[1:] {
		out += "(" + with(i+1, part[:1]) + ")" + part[1:]
	}
	return out, len(parts) - 1
}

// by: an expression of a type that is made by one of int.
func by(kind, number string) string {
	return map[string]string{"i": number, "s": "str(" + number + ")", "b": number + " > -1", "p": "P{b: true, x: " + number + ", s: \"\"}"}[kind]
}

// rising: 1 to n, with commas between.
func rising(n int) string {
	var list []string
	for i := range n {
		list = append(list, strconv.Itoa(i+1))
	}
	return strings.Join(list, ",")
}

// P13.2: arguments come from left to right: what each emits shows when.
func TestOrderByEmissions(t *testing.T) {
	for _, statements := range slots() {
		text, n := filled(statements, func(slot int, kind string) string { return by(kind, fmt.Sprintf("i(%d)", slot)) })
		got := does(t, text, "", "")
		if !strings.HasPrefix(got, fmt.Sprintf("done %d emits ", 1+n+strings.Count(text, "while")+strings.Count(text, "four("))) {
			t.Errorf("P13.2: %s: %s", text, got)
		}
		// What the statements themselves emit stands among it.
		if list := strings.Fields(got)[3]; strings.Contains(statements, "emit") != (list != rising(n)) || !isWithin(strings.Split(rising(n), ","), strings.Split(list, ",")) {
			t.Errorf("P13.2: %s: %s", text, got)
		}
	}
}

// isWithin: whether a list's elements stand in another one, in order.
func isWithin(list, other []string) bool {
	for _, s := range other {
		if len(list) > 0 && list[0] == s {
			list = list[1:]
		}
	}
	return len(list) == 0
}

// asked: an expression of a type that makes a request of its slot's number.
func asked(slot int, kind string) string { return by(kind, fmt.Sprintf("len(ask port(\"%d\"))", slot)) }

// P13.2: what stands ahead of a trap or a request without an answer was done, wholly; what stands behind it wasn't.
func TestOrderByTraps(t *testing.T) {
	for _, statements := range slots() {
		_, n := filled(statements, asked)
		if strings.Contains(statements, "ask") {
			continue
		}
		for stop := 1; stop <= min(n, 4); stop++ {
			traps := func(number string) func(int, string) string {
				return func(slot int, kind string) string {
					if slot == stop {
						return by(kind, number)
					}
					return asked(slot, kind)
				}
			}
			answers := []string{"abc", "abc", "abc", "abc"}
			for trap, number := range map[int]string{api.TrapZero: "1 / 0", api.TrapOver: "9223372036854775807 + 1", api.TrapLong: "len(\"" + strings.Repeat("a", 64) + "\" & \"a\")"} {
				text, _ := filled(statements, traps(number))
				wantStop(t, text, answers, api.Trapped, trap, stop-1)
			}
			text, _ := filled(statements, asked)
			wantStop(t, text, answers[:stop-1], api.Waits, 0, stop)
		}
	}
}

// wantStop: where statements stop, behind how many requests, of rising numbers.
func wantStop(t *testing.T, statements string, answers []string, end, trap, made int) {
	t.Helper()
	x := read(t, in(statements))
	c := coded(t, x)
	o := runCode(t, c, x, blank(c.Program), api.Event{Name: "e"}, answers, 0)
	if o.End != end || o.Trap != trap || len(o.Requests) != made {
		t.Errorf("P13.2: %s: %s", statements, told(c.Program, o))
		return
	}
	for i, r := range o.Requests {
		if r.Text != strconv.Itoa(i+1) || r.N != i+1 {
			t.Errorf("P13.2: %s: %s", statements, told(c.Program, o))
		}
	}
}

// P13.2: of two arguments that trap the first one's trap is told.
func TestTheFirstTrap(t *testing.T) {
	numbers := map[int]string{api.TrapZero: "1 / 0", api.TrapOver: "9223372036854775807 + 1"}
	for _, statements := range slots() {
		_, n := filled(statements, asked)
		for first := 1; first < n; first++ {
			for trap, other := range map[int]int{api.TrapZero: api.TrapOver, api.TrapOver: api.TrapZero} {
				text, _ := filled(statements, func(slot int, kind string) string {
					switch {
					case slot < first:
						return by(kind, "5")
					case slot == first:
						return by(kind, numbers[trap])
					}
					return by(kind, numbers[other])
				})
				wantStop(t, text, []string{"", ""}, api.Trapped, trap, 0)
			}
		}
	}
}

// P13.2: arguments come ahead of what is made of them: its trap is told behind their requests, and not if they trap themselves.
func TestOwnTrapsComeLast(t *testing.T) {
	many := "let k = 0; while k < 24 { m[k] = k; k = k + 1; } "
	wantRows(t, "P13.2", []row{
		{`do len(ask port("1")) / len(ask port("2"));`, "trap Zero 1 asks port(1) asks port(2)", []string{"", ""}},
		{`do len(ask port("1")) / len(ask port("2"));`, "waits 1 asks port(1) asks port(2)", []string{""}},
		{`do (9223372036854775807 + len(ask port("1"))) + len(ask port("2"));`, "trap Over 1 asks port(1)", []string{"a", ""}},
		{`do (9223372036854775807 + len(ask port("1"))) + len(ask port("2"));`, "trap Over 1 asks port(1) asks port(2)", []string{"", "a"}},
		{`do ask port("1") & ask port("2");`, "trap Long 1 asks port(1) asks port(2)", []string{strings.Repeat("a", 64), "b"}},
		{`after len(ask port("1")) v(len(ask port("2")));`, "trap Delay 1 asks port(1) asks port(2)", []string{"", "a"}},
		{`after 0 v(len(ask port("1")));`, "waits 1 asks port(1)", nil},
		{`after 0 v(1 / 0);`, "trap Zero 1", nil},
		{`after 1001 y(1, "", P{x: len(ask port("1")), s: "", b: true}, 1 / 0 == 1);`, "trap Zero 1 asks port(1)", []string{""}},
		{many + `m[len(ask port("1"))] = len(ask port("2"));`, "trap Full 26 asks port(1) asks port(2)", []string{strings.Repeat("a", 24), ""}},
		{many + `m[24] = 1 / 0;`, "trap Zero 26", nil},
		{many + `m[24] = m[24];`, "trap Full 26", nil},
		{"do far(12 + len(ask port(\"1\")));", "trap Depth 13 asks port(1)", []string{""}},
		{"let k = 0; while k < 12 { emit \"\"; k = k + 1; } emit ask port(\"1\");", "trap Emits 14 asks port(1)", []string{""}},
		{"let k = 0; while k < 12 { emit \"\"; k = k + 1; } emit str(1 / 0);", "trap Zero 14", nil},
		{"do ask port(ask port(ask port(ask port(ask port(str(1 / 0))))));", "trap Zero 1", nil},
	})
}

// P13.2: the second argument of `and`, `or` only if the first one doesn't tell.
func TestAndOr(t *testing.T) {
	wantRows(t, "P13.2", []row{
		{`if b(true) and b(true) { emit "x"; } else { emit "y"; }`, "done 3 emits t,t,x", nil},
		{`if b(true) and b(false) { emit "x"; } else { emit "y"; }`, "done 3 emits t,f,y", nil},
		{`if b(false) and b(true) { emit "x"; } else { emit "y"; }`, "done 2 emits f,y", nil},
		{`if b(true) or b(true) { emit "x"; } else { emit "y"; }`, "done 2 emits t,x", nil},
		{`if b(false) or b(true) { emit "x"; } else { emit "y"; }`, "done 3 emits f,t,x", nil},
		{`if b(false) or b(false) { emit "x"; } else { emit "y"; }`, "done 3 emits f,f,y", nil},
		{`if b(false) or b(true) and b(false) or b(true) { emit "x"; }`, "done 5 emits f,t,f,t,x", nil},
		{`if b(false) and (b(true) or b(true)) or b(false) { emit "x"; }`, "done 3 emits f,f", nil},
		{`o["a"] = b(true) and b(false) or b(true);`, `done 4 emits t,f,t o["a"]=true`, nil},
		{`let c = b(false) and b(true); o["a"] = c; c = c or b(true); o["b"] = c;`, `done 3 emits f,t o["a"]=false o["b"]=true`, nil},
		{`let c = true; c = b(false) or c; o["a"] = c; c = b(true) and not (c); o["b"] = c;`, `done 3 emits f,t o["a"]=true o["b"]=false`, nil},
		{`let c = true; c = not (c) or c; o["a"] = c; c = not (c) or (c and not (c)); o["b"] = c;`, `done 1 o["a"]=true o["b"]=false`, nil},
		{`let c = false; c = c and c or not (c); o["a"] = c;`, `done 1 o["a"]=true`, nil},
		{`if false and 1 / 0 == 1 { } if true or 1 / 0 == 1 { emit "x"; }`, "done 1 emits x", nil},
		{`if true and 1 / 0 == 1 { }`, "trap Zero 1", nil},
		{`if false or 1 / 0 == 1 { }`, "trap Zero 1", nil},
		{`if 1 / 0 == 1 and false { }`, "trap Zero 1", nil},
		{`if false and ask port("1") == "" { } if true or ask port("2") == "" { } do ask port("3");`, "waits 1 asks port(3)", nil},
		{`if ask port("1") == "a" and ask port("2") == "a" or ask port("3") == "a" { emit "x"; }`, "done 1 emits x asks port(1) asks port(3)", []string{"", "a"}},
		{`if ask port("1") == "a" and ask port("2") == "a" or ask port("3") == "a" { emit "x"; }`, "done 1 emits x asks port(1) asks port(2)", []string{"a", "a"}},
		{`do four(i(1), far(2), m[3], 4) + len("" & str(i(5))); let c = i(6) == 6 and i(7) == 6 or i(8) == 8; if c { emit "9"; }`, "done 10 emits 1,5,6,7,8,9", nil},
		{`while b(true) and m[1] < 2 { m[1] = m[1] + 1; }`, "done 7 emits t,t,t m[1]=2", nil},
		{`do four(1, 2, 3, 4) == 5 and has m[1 / 0];`, "done 2", nil},
	})
}
