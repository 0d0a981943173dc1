package nfa

import (
	"testing"

	"archivist/api"
	"archivist/rex"
)

// TestStates (P5.3) counts states: each that the Size counts, and where the text is matched.
func TestStates(t *testing.T) {
	for _, s := range []string{
		"", "a", "ab", "a|b|c", "a||b", "a*", "a+", "a?", "a{0}", "a{1}", "a{5}", "a{5,}", "a{1,}", "a{0,}", "a{2,7}", "(ab){3,5}c", "(a|b+){2,}", "(a*)*", "((a?){3}b){4}", "^a$", "()*", "()+", "()?", "(|)", "(|){3}", "(|a){3}", "(){5}", "((){9,}){3,20}", "(a{0}|b){9}", "(a{0}|()){9}", "((a{1}){1}){1}", "(a{10}){20}", "[a-c]{3}.",
	} {
		n, _, e := rex.Parse(s)
		if e != api.OK {
			t.Fatal(s)
		}
		p, e := Compile(n)
		if e != api.OK || len(p.states) > rex.Size(n)+1 {
			t.Errorf("%q: %d states, but a size of %d", s, len(p.states), rex.Size(n))
		}
	}
}
