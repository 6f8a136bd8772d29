package emit_test

import (
	"fmt"
	"math/rand"
	"strings"
	"testing"

	"windlass/api"
	"windlass/emit"
	"windlass/parse"
	"windlass/tree"
)

// codes: shown, what Compile tells of a source with each choice of passes.
func codes(t *testing.T, source string) []string {
	t.Helper()
	var list []string
	for passes := range subsets() {
		c, at, err := emit.Compile(source, passes)
		if err != api.OK {
			t.Fatalf("P18.1: %d: %d at %d\n%s", passes, err, at, source)
		}
		list = append(list, shown(c))
	}
	return list
}

func wantSame(t *testing.T, source, other string) {
	t.Helper()
	wantCodes(t, other, codes(t, source))
}

func wantCodes(t *testing.T, source string, want []string) {
	t.Helper()
	for passes, got := range codes(t, source) {
		if got != want[passes] {
			t.Fatalf("P18.3: passes %d: unlike:\n%s\n%s\nwant %s", passes, source, got, want[passes])
		}
	}
}

var variableNames = strings.Fields("i j a s b x v y z n k0 k1 k2 k3")

// renamed: other names for all of these; the names of variables and labels stand in no other one's way but that of maps.
func renamed(k *rand.Rand, names, others []string) map[string]string {
	told := map[string]string{}
	for i, at := range k.Perm(len(others))[:len(names)] {
		told[names[i]] = others[at]
	}
	return told
}

// taken: names of functions, records' fields, ports, handlers and labels, and words with something behind them.
var taken = strings.Fields("none same half both pair put say down twice maybe f e other x s q l0 l1 in_ mapZ _ __ a1 zZ n0")

func numberedNames(count, size int) []string {
	var list []string
	for i := range count {
		list = append(list, fmt.Sprintf("n%s%02d", strings.Repeat("_", size-3), i))
	}
	return list
}

func styles(k *rand.Rand) []style {
	labels := []string{"l0", "l1", "l2"}
	return []style{
		{Rand: k, between: []string{"", "", " ", "\n", "\t", "\r\n", "  "}},
		{Rand: k, between: []string{"", "", "", "", "", "#\n", "# ) { note \"\n", " #!\xff#\n\t"}},
		{Rand: k, between: []string{""}, variables: renamed(k, variableNames, variableNames), labels: renamed(k, labels, []string{"a", "f", "_"})},
		{Rand: k, between: []string{""}, variables: renamed(k, variableNames, taken), labels: renamed(k, labels, taken)},
		{Rand: k, between: []string{""}, variables: renamed(k, variableNames, numberedNames(14, 5)), labels: renamed(k, labels, numberedNames(14, 20))},
		{Rand: k, between: []string{""}, brackets: 30},
		{Rand: k, between: []string{" ", ""}, brackets: 10, variables: renamed(k, variableNames, variableNames), labels: map[string]string{"l0": "l1", "l1": "l0"}},
	}
}

// P18.3: names of variables and labels, blanks, notes and brackets that aren't needed change nothing.
func TestStyles(t *testing.T) {
	t.Parallel()
	k := rand.New(rand.NewSource(189))
	taken := make([]int, len(styles(k)))
	for _, draft := range someDrafts(190, 12) {
		want := codes(t, tight().source(draft))
		for i, s := range styles(k) {
			other := s.source(draft)
			if _, _, err := parse.Parse(other); err != api.OK {
				if err != api.ErrLexLong && err != api.ErrParseDeep {
					t.Fatalf("%d: %s", err, other)
				}
				continue
			}
			taken[i]++
			wantCodes(t, other, want)
		}
	}
	for i, times := range taken {
		if times < 6 {
			t.Errorf("style %d: %d times", i, times)
		}
	}
}

// P18.3: nor is it another code as layer 6 writes it.
func TestPrinted(t *testing.T) {
	t.Parallel()
	taken := 0
	for _, source := range someSources(191, 20) {
		x, at, err := parse.Parse(source)
		if err != api.OK {
			t.Fatalf("%d at %d", err, at)
		}
		other, err := tree.Print(x)
		if err != api.OK {
			t.Fatal(err)
		}
		if len(other) <= api.MaxSource {
			taken++
			wantSame(t, source, other)
		}
	}
	if taken < 5 {
		t.Errorf("%d times", taken)
	}
}

// P18.3: brackets that aren't needed, by the grammar; beside them some that are.
func TestBrackets(t *testing.T) {
	for _, w := range []struct {
		source, other string
		isSame        bool
	}{
		{"do a + c * d;", "do a + (c * d);", true}, {"do a + c * d;", "do (a + c) * d;", false}, {"do a - c - d;", "do ((a - c) - d);", true}, {"do a - c - d;", "do a - (c - d);", false}, {"do a / c % d;", "do (a / c) % d;", true}, {"do a +% c -% d;", "do (a +% c) -% d;", true},
		{"do a + c == d * a;", "do (a + c) == (d * a);", true}, {"do not a == c;", "do not (a == c);", true}, {"do not b == z;", "do (not b) == z;", false}, {"do not not b;", "do not (not (b));", true}, {"do b or z and b;", "do b or (z and b);", true}, {"do b or z and b;", "do (b or z) and b;", false}, {"do b and z and b;", "do (b and z) and b;", true},
		{"do a < c and c < d or b;", "do (((a < c) and ((c < d))) or b);", true}, {"do - a * c;", "do (- a) * c;", true}, {"do - a * c;", "do - (a * c);", false}, {"do -5;", "do - 5;", true}, {"do -5;", "do (- # note\n 5);", true}, {"do -5;", "do -(5);", false}, {"do 5;", "do 0005;", true},
		{"do p[a].x;", "do (p[(a)]).x;", true}, {"do P{x: a, s: s}.x;", "do (P { x: (a), s: ((s)) }).x;", true}, {"do P{x: a, s: s}.x;", "do P{s: s, x: a}.x;", false}, {"do has m[a];", "do (has m[(a)]);", true}, {"do len(s & s);", "do (len((s & s)));", true}, {"do str(a);", "do str((a));", true}, {"emit ask q(s);", "emit (ask q((s)));", true},
		{"do g(a, s);", "do (g((a), (s)));", true}, {"if b { }", "if (b) { }", true}, {"while b { break; }", "while ((b)) { break; }", true}, {"if b { } else if z { }", "if b { } else { if z { } }", true}, {"m[a] = c;", "m[(a)] = (c);", true}, {"del m[a];", "del m[(a)];", true}, {"after a e(c, d, a, s, b, z);", "after (a) e((c), (d), (a), (s), (b), (z));", true},
		{"while b { break; }", "l: while b { break l; }", true}, {"l: while b { l2: while z { continue l2; } }", "l: while b { while z { continue; } }", true}, {"l: while b { l2: while z { continue l; } }", "l: while b { while z { continue; } }", false}, {"let k = a; emit str(k);", "let e = a; emit str(e);", true}, {"each k in m { del m[k]; }", "each g in m { del m[g]; }", true},
	} {
		const before = "record P { x: int, s: text } map m: int -> int; map p: int -> P; fn g(a: int, s: text) { m[a] = len(s); } on e(a: int, c: int, d: int, s: text, b: bool, z: bool) { "
		if w.isSame {
			wantSame(t, before+w.source+" }", before+w.other+" }")
		} else if codes(t, before+w.source+" }")[0] == codes(t, before+w.other+" }")[0] {
			t.Errorf("P18.2: they mean other things, but are alike: %s and %s", w.source, w.other)
		}
	}
}

// P18.3: the same code each time, whatever was asked between.
func TestEachTime(t *testing.T) {
	t.Parallel()
	sources := someSources(192, 15)
	var first [][]string
	for _, source := range sources {
		first = append(first, codes(t, source))
	}
	for i := range sources {
		i = len(sources) - 1 - i
		for passes, got := range codes(t, strings.Clone(sources[i])) {
			u, _, _ := emit.Unit(sources[i], passes)
			again, _, _ := emit.Unit(sources[i], passes)
			if got != first[i][passes] || shown(u) != shown(again) {
				t.Errorf("P18.3: %d: another code: %s", passes, sources[i])
			}
		}
	}
}
