package emit_test

import (
	"testing"
)

// endless: sources of which runs use up their charges, in loops and in functions, some of which are laid in.
func endless() []string {
	var list []string
	for _, statements := range []string{
		"while true { $x = $x +% 1 ; } emit str ( $x ) ;", "while true { do twice ( $x ) ; $x = $x +% 1 ; m [ $x % 9 ] = $x ; }", "while true { each $k in m { $x = $x +% half ( $k ) ; } do pair ( $x , $s ) ; }",
		"while $x < 399 { $x = $x + 1 ; } emit $s ;", "while $x < 398 { $x = $x + 1 ; } emit $s ;", "while $x < 132 { $x = $x + 1 ; $v = twice ( $v ) ; } m [ 1 ] = $v ;", "while $x < 133 { $x = $x + 1 ; do same ( same ( $v ) ) ; } m [ 1 ] = $v ;",
	} {
		list = append(list, tight().source(head+"on e ( $a : int , $s : text , $b : bool ) { let $x = 0 ; let $v = 1 ; if $b { do none ( ) ; } "+statements+" } on other ( ) { }"))
	}
	return list
}

// P18.2: whatever passes are on, sources by chance, and such as don't come to an end, do what they do without any.
func TestSourcesByChance(t *testing.T) {
	t.Parallel()
	var s seen
	list := occasions()
	for _, source := range append(someSources(181, 36), endless()...) {
		wantMeaning(t, source, list)
		c := codeOf(t, source, allPasses)
		for _, o := range list {
			s.add(run(t, c, o))
		}
	}
	s.wantEnough(t)
}
