package token_test

import (
	"math/rand/v2"
	"strconv"
	"testing"

	"yankline/api"
	"yankline/fold"
	"yankline/token"
)

// Behind an Account event with a free token's sum that token is that account's, and all others are whose they were (but for those of the same sum).
func TestP133Free(t *testing.T) {
	for _, tok := range toks() {
		for _, who := range []string{"a", "bob", "z"} {
			l := []api.Event{account("b", "tok of b"), account("m", "x"), account("y", "no token")}
			s := of(t, l...)
			if free, err := token.Free(s, tok); !free || err != nil {
				t.Fatalf("Free(%q) = %t, %v", tok, free, err)
			}
			n, e := token.Sum(tok)
			if e != api.OK {
				t.Fatalf("Sum(%q): %v", tok, e)
			}
			if err := s.Apply(api.Event{Kind: api.Account, Who: who, Sum: n}); err != nil {
				t.Fatal(err)
			}
			belongs(t, "behind its Account", s, tok, who)
			told(t, "behind its Account", s, append(l, account(who, tok)))
		}
	}
}

// Scripts of accounts, whose tokens are free or not: what is told behind each event, by the events alone.
func TestP133Scripts(t *testing.T) {
	r := rand.New(rand.NewPCG(13, 3))
	all := append(toks(), nones()[:12]...)
	for range 20 {
		s := fold.New()
		var l []api.Event
		for range 25 {
			tok := all[r.IntN(len(all))]
			e := account("a"+strconv.Itoa(r.IntN(40)), tok)
			free, err := token.Free(s, tok)
			if s.Apply(e) != nil {
				told(t, "behind what does not fit", s, l)
				continue
			}
			l = append(l, e)
			told(t, "in a script", s, l)
			if who, no := token.Who(s, tok); err == nil && free && (who != e.Who || no != nil) {
				t.Errorf("behind Account of %s with the free token %q: Who = %q, %v", e.Who, tok, who, no)
			}
		}
	}
}

// Free is false just where Who answers somebody.
func TestP133Either(t *testing.T) {
	l := []api.Event{account("alice", "tok-a"), account("bob", "tok-b"), account("carol", nought), account("aa", "tok-b")}
	for n := range len(l) + 1 {
		s := of(t, l[:n]...)
		for _, tok := range append(toks(), nones()...) {
			who, err := token.Who(s, tok)
			free, no := token.Free(s, tok)
			if somebody := err == nil; token.May(tok) == api.OK && (no != nil || free == somebody || (who != "") != somebody) {
				t.Errorf("of %d accounts Who(%.80q) = %q, %v, Free = %t, %v", n, tok, who, err, free, no)
			}
			if token.May(tok) != api.OK && (free || no == nil || who != "" || err == nil) {
				t.Errorf("of %d accounts, of no token Who(%.80q) = %q, %v, Free = %t, %v", n, tok, who, err, free, no)
			}
		}
	}
}
