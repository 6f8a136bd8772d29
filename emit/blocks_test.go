package emit_test

import (
	"strings"
	"testing"

	"windlass/api"
	"windlass/code"
	"windlass/dead"
	"windlass/emit"
	"windlass/flow"
	"windlass/fold"
	"windlass/fuse"
	"windlass/inline"
)

type pass struct {
	bit  int
	over func(api.Unit) (api.Unit, api.Errno)
}

// passes: each with its bit.
func passes() []pass {
	return []pass{{api.PassFold, fold.Pass}, {api.PassDead, dead.Pass}, {api.PassInline, inline.Pass}, {api.PassFuse, fuse.Pass}}
}

// samples: sources in which each pass finds something, and sources by chance.
func samples() []string {
	return append(someSources(185, 20),
		"map m: int -> int; on e() { m[0] = 1 + 2 * 3; }", "on e() { if false { emit \"x\"; } }", "fn f(a: int) -> int { return a; } on e(a: int) { do f(f(a)); }", "map m: int -> int; on e(a: int) { m[a] = m[a] + m[a]; }",
		"fn f() { do f(); } on e() { while true { do f(); } }", "record P { x: int } map m: int -> P; on e(a: P) { m[a.x] = m[a.x]; }", "on e() { return; }",
	)
}

// P18.1: without a pass Unit tells lower's blocks.
func TestNoPass(t *testing.T) {
	for _, source := range samples() {
		if got, want := shown(unitOf(t, source, 0)), shown(lowered(t, source)); got != want {
			t.Errorf("P18.1: %s\n%s\nwant %s", source, got, want)
		}
	}
}

// P18.1: all other bits count for nothing.
func TestOtherBits(t *testing.T) {
	for i, source := range samples() {
		for passes := range subsets() {
			want, other := shown(unitOf(t, source, passes)), otherBits[(i+passes)%len(otherBits)]
			if got := shown(unitOf(t, source, passes|other)); got != want {
				t.Errorf("P18.1: %d with %d: %s\n%s\nwant %s", passes, other, source, got, want)
			}
		}
	}
}

// P18.1: a pass that is on alone, gone over again until there is nothing left to do.
func TestOnePass(t *testing.T) {
	changed := map[int]int{}
	for _, source := range samples() {
		for _, p := range passes() {
			want := lowered(t, source)
			for before := ""; before != shown(want); {
				before = shown(want)
				v, err := p.over(want)
				if err != api.OK {
					t.Fatal(err)
				}
				want = v
			}
			got := unitOf(t, source, p.bit)
			if shown(got) != shown(want) {
				t.Errorf("P18.1: pass %d: %s\n%s\nwant %s", p.bit, source, shown(got), shown(want))
			}
			if shown(got) != shown(lowered(t, source)) {
				changed[p.bit]++
			}
		}
	}
	for _, p := range passes() {
		if changed[p.bit] < 10 {
			t.Errorf("pass %d does something in %d sources", p.bit, changed[p.bit])
		}
	}
}

// P18.1: behind all that are on, none of them changes the code any more; so none that is on was left out.
func TestNothingLeft(t *testing.T) {
	for _, source := range samples() {
		for on := range subsets() {
			u := unitOf(t, source, on)
			c, _ := flow.Flatten(u)
			for _, p := range passes() {
				v, err := p.over(u)
				again, _ := flow.Flatten(v)
				if on&p.bit != 0 && (err != api.OK || !code.Same(c, again)) {
					t.Errorf("P18.1: %d: pass %d would change it: %d: %s\n%s\n%s", on, p.bit, err, source, rows(c), rows(again))
				}
			}
		}
	}
}

// P18.1: a pass that is off does nothing: what it alone does isn't there.
func TestPassesThatAreOff(t *testing.T) {
	const source = "map m: int -> int; fn f(a: int) -> int { return a; } on e(a: int) { let x = m[a]; let y = m[a]; m[1 + 1] = f(a) + x + y; if a == 0 { return; let z = 5; } else if false { m[9] = 9; } }"
	base := codeOf(t, source, 0)
	for on := range subsets() {
		c := codeOf(t, source, on)
		events := api.Code{Program: c.Program, Events: c.Events}
		if isFolded := count(c, api.IAdd) < count(base, api.IAdd); isFolded != (on&api.PassFold != 0) {
			t.Errorf("P18.1: %d: folded: %v: %s", on, isFolded, rows(c))
		}
		if isCleared := !strings.Contains(rows(c), "9"); isCleared != (on&api.PassDead != 0) {
			t.Errorf("P18.1: %d: dead ones are gone: %v: %s", on, isCleared, rows(c))
		}
		if isLaid := count(events, api.ICall) == 0; isLaid != (on&api.PassInline != 0) || isLaid != (count(c, api.IEnter) > 0) {
			t.Errorf("P18.1: %d: laid in: %v: %s", on, isLaid, rows(c))
		}
		if isFused := count(c, api.IGet) == 1; isFused != (on&api.PassFuse != 0) {
			t.Errorf("P18.1: %d: fused: %v: %s", on, isFused, rows(c))
		}
	}
}

// The chapter's example, with each choice of passes.
func TestExample(t *testing.T) {
	for on := range subsets() {
		want := map[int]string{
			0:                           "charge 0 1 2 3 mul add put ret",
			api.PassFold:                "charge 0 1 2 3 6 7 put ret",
			api.PassDead:                "charge 0 1 2 3 mul add put ret",
			api.PassFold | api.PassDead: "charge 0 7 put ret",
		}[on&(api.PassFold|api.PassDead)]
		if got := rows(codeOf(t, "map m: int -> int; on e() { m[0] = 1 + 2 * 3; }", on)); got != want {
			t.Errorf("P18.2: %d: %s, want %s", on, got, want)
		}
	}
	// As it stands there, it names a map that isn't declared.
	if _, at, err := emit.Compile("on e() { m[0] = 1 + 2 * 3; }", api.PassFold|api.PassDead); at != 9 || err != api.ErrTypeName {
		t.Errorf("P18.1: %d at %d", err, at)
	}
}

// P18.2: a pass finds more behind another one: by what is reckoned a function is small enough to be laid in, and what is laid in is reckoned and read again.
func TestTogether(t *testing.T) {
	for _, w := range []struct {
		source string
		passes int
		want   string
	}{
		{"fn f(a: int) -> int { return a + (1 + 2 + 3 + 4 + 5); } map m: int -> int; on e() { m[1] = f(4); }", allPasses, "charge 15 add ret; charge 1 enter charge 19 leave put ret"},
		{"fn f() -> bool { return 1 > 2; } on e() { if f() { emit \"x\"; } emit \"y\"; }", allPasses, "charge false ret; charge enter charge leave \"y\" emit ret"},
		{"fn f(a: int) -> int { return a + (1 + 2 + 3 + 4 + 5); } map m: int -> int; on e(a: int) { m[a] = f(a); }", api.PassInline, "charge 1 2 add 3 add 4 add 5 add add ret; charge move call put ret"},
		{"map m: int -> int; fn none() { } on e(a: int) { let x = m[a]; do none(); let y = m[a]; m[a] = x + y; }", api.PassInline | api.PassFuse, "charge ret; charge get enter charge leave move add put ret"},
	} {
		if got := rows(codeOf(t, w.source, w.passes)); got != w.want {
			t.Errorf("P18.2: %d: %s\n%s, want\n%s", w.passes, w.source, got, w.want)
		}
	}
}
