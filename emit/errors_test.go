package emit_test

import (
	"fmt"
	"math/rand"
	"strings"
	"testing"

	"windlass/api"
	"windlass/emit"
	"windlass/lower"
	"windlass/parse"
)

// wantRefused: that a source is refused with this error and place, and nothing beside, whatever passes are on.
func wantRefused(t *testing.T, source string, place int, err api.Errno) {
	t.Helper()
	for passes := range subsets() {
		passes |= otherBits[passes%len(otherBits)]
		u, at, number := emit.Unit(source, passes)
		if at != place || number != err || shown(u) != shown(api.Unit{}) {
			t.Errorf("P18.1: %.200s: Unit with %d: %d at %d, want %d at %d; beside it %.200s", source, passes, number, at, err, place, shown(u))
		}
		c, at, number := emit.Compile(source, passes)
		if at != place || number != err || shown(c) != shown(api.Code{}) {
			t.Errorf("P18.1: %.200s: Compile with %d: %d at %d, want %d at %d; beside it %.200s", source, passes, number, at, err, place, shown(c))
		}
	}
}

type refused struct {
	source string
	place  int
	err    api.Errno
}

// P18.1: what layers 5 and 7 refuse, with each of their errors.
func TestNoTree(t *testing.T) {
	for _, r := range []refused{
		{strings.Repeat(" ", api.MaxSource) + "!", 0, api.ErrLexLong}, {"on e() { ! }", 9, api.ErrLexByte}, {"\x00", 0, api.ErrLexByte}, {"on e() { emit \"x; }", 14, api.ErrLexOpen},
		{"x", 0, api.ErrParse}, {"on e() { x = ; }", 13, api.ErrParse}, {"on e() { 1; }", 9, api.ErrParse}, {"on e() {", 8, api.ErrParse}, {"on e() { } }", 11, api.ErrParse},
		{"on e() { do " + strings.Repeat("(", 40) + "1", 12 + 39, api.ErrParseDeep}, {"on e() { do f(" + strings.Repeat("1,", 12) + "1); }", 14 + 24, api.ErrParseMany}, {strings.Repeat("on e(){}", 17), 8 * 16, api.ErrParseMany},
		{"on e() { do 9223372036854775808; }", 12, api.ErrParseInt}, {"on " + strings.Repeat("e", 21) + "() { }", 3, api.ErrParseName}, {"on e() { emit \"" + strings.Repeat("x", 65) + "\"; }", 14, api.ErrParseName},
		// What stands ahead of it has no meaning, either; but a tree comes first.
		{"on e() { do y; } on e() { x = ; }", 30, api.ErrParse},
	} {
		wantRefused(t, r.source, r.place, r.err)
	}
}

// P18.1: what layers 8 and 13 refuse, with each of their errors.
func TestNoMeaning(t *testing.T) {
	many, sum := "", ""
	for i := range 62 {
		many += fmt.Sprintf("let a%d = 1; ", i)
	}
	for i := range 1100 {
		sum += fmt.Sprintf("+%d", i%2)
	}
	for _, r := range []refused{
		{"on e() { x = 1; }", 9, api.ErrTypeName}, {"map m: int -> P;", 0, api.ErrTypeName}, {"on e() { do f(1); }", 12, api.ErrTypeName}, {"on e() { } on e() { }", 11, api.ErrTypeTwice}, {"on e(x: int) { let x = 1; }", 15, api.ErrTypeTwice},
		{"on e() { emit 1; }", 14, api.ErrTypeType}, {"on e() { if 1 + 1 { } }", 12, api.ErrTypeType}, {"fn f(x: int) { } on e() { do f(); }", 29, api.ErrTypeCount}, {"on e() { break; }", 9, api.ErrTypeLoop}, {"on e() { x: while true { continue y; } }", 25, api.ErrTypeLoop},
		{"fn f() -> int { if true { return 1; } }", 0, api.ErrTypeReturn}, {"on e() { return 1; }", 9, api.ErrTypeReturn},
		{"on a() { } on e(b: int) { " + many + "do 1 + b + 2 * (3 + (4 + b)); }", 11, api.ErrFlowForm}, {"map m: int -> int; fn f() { } on e(a: int) { do a" + sum + "; }", 30, api.ErrFlowForm},
		// A pass that would make it fit comes too late.
		{"on e() { do 1" + sum + "; }", 0, api.ErrFlowForm}, {"on a() { } on e(a: bool) { if 1 == 2 { do 1" + sum + "; } }", 11, api.ErrFlowForm},
	} {
		wantRefused(t, r.source, r.place, r.err)
	}
}

// P18.1: sources that are spoilt by chance are refused as layers 7 and 13 refuse them, or taken.
func TestSpoilt(t *testing.T) {
	k := rand.New(rand.NewSource(182))
	told := map[api.Errno]int{}
	for _, draft := range someDrafts(183, 1500) {
		source := spoilt(k, draft)
		passes := k.Intn(allPasses+1) | otherBits[k.Intn(len(otherBits))]
		x, place, want := parse.Parse(source)
		if want == api.OK {
			_, place, want = lower.Lower(x)
		}
		told[want]++
		if want == api.OK {
			unitOf(t, source, passes)
			continue
		}
		u, at, err := emit.Unit(source, passes)
		c, at2, err2 := emit.Compile(source, passes)
		if at != place || err != want || at2 != place || err2 != want || shown(u) != shown(api.Unit{}) || shown(c) != shown(api.Code{}) {
			t.Fatalf("P18.1: %d at %d, %d at %d, want %d at %d\n%s", err, at, err2, at2, want, place, source)
		}
	}
	t.Logf("errors: %v", told)
	for _, err := range []api.Errno{api.OK, api.ErrLexByte, api.ErrLexOpen, api.ErrParse, api.ErrTypeName, api.ErrTypeType} {
		if told[err] < 20 {
			t.Errorf("%d is seen too seldom", err)
		}
	}
}

// spoilt: the source of a draft in which a token is another one, or of which a byte is.
func spoilt(k *rand.Rand, draft string) string {
	tokens := strings.Fields(draft)
	at := k.Intn(len(tokens))
	switch k.Intn(4) {
	case 0:
		source := tight().source(draft)
		at = k.Intn(len(source))
		return source[:at] + []string{"", "!", "\"", "(", "1", "x", ";", "#", "\xff", "="}[k.Intn(10)] + source[at+1:]
	case 1:
		if tokens[at] != "<<" && tokens[at] != ">>" {
			tokens[at] = ";"
		}
	default:
		for tokens[at][0] != '$' && tokens[at][0] != '"' {
			at = k.Intn(len(tokens))
		}
		tokens[at] = []string{"$x", "$y", "$z", "$n", "$a", "1", `"t"`, "true"}[k.Intn(8)]
	}
	return tight().source(strings.Join(tokens, " "))
}

// P18.1: Unit answers for any bytes.
func TestAnyBytes(t *testing.T) {
	k := rand.New(rand.NewSource(184))
	for range 3000 {
		bytes := make([]byte, k.Intn(40))
		for i := range bytes {
			bytes[i] = byte(k.Intn(256))
		}
		source := string(bytes)
		_, place, want := parse.Parse(source)
		if want == api.OK {
			continue // without declarations
		}
		if _, at, err := emit.Compile(source, k.Int()-k.Int()); at != place || err != want {
			t.Errorf("P18.1: %q: %d at %d, want %d at %d", source, err, at, want, place)
		}
	}
}

// A source without declarations is a program without any.
func TestNothing(t *testing.T) {
	for _, source := range []string{"", " ", "# note", "\n\t\r\n"} {
		for passes := range subsets() {
			if u := unitOf(t, source, passes); shown(u) != shown(api.Unit{}) {
				t.Errorf("P18.1: %q: %s", source, shown(u))
			}
		}
	}
}
