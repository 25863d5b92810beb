package token_test

import (
	"strings"
	"testing"

	"yankline/api"
	"yankline/fold"
	"yankline/token"
)

func TestP131Examples(t *testing.T) {
	for tok, want := range map[string]api.Errno{"a b": api.ErrToken, "abc": api.OK, strings.Repeat("x", 65): api.ErrToken} {
		if got := token.May(tok); got != want {
			t.Errorf("May(%q) = %v, want %v", tok, got, want)
		}
	}
	if n, e := token.Sum("a"); n != 12638187200555641996 || e != api.OK {
		t.Errorf("Sum(a) = %d, %v", n, e)
	}
}

// weighed holds May and Sum of a text against the chapter's words.
func weighed(t *testing.T, tok string) {
	t.Helper()
	want, sum := api.ErrToken, uint64(0)
	if mayBe.MatchString(tok) {
		want, sum = api.OK, sumOf(tok)
	}
	if got := token.May(tok); got != want {
		t.Errorf("May(%.80q) = %v, want %v", tok, got, want)
	}
	if n, e := token.Sum(tok); n != sum || e != want {
		t.Errorf("Sum(%.80q) = %d, %v, want %d, %v", tok, n, e, sum, want)
	}
}

func TestP131Texts(t *testing.T) {
	for _, tok := range toks() {
		weighed(t, tok)
		if e := token.May(tok); e != api.OK {
			t.Errorf("May(%q) = %v", tok, e)
		}
	}
	for _, tok := range nones() {
		weighed(t, tok)
		if e := token.May(tok); e != api.ErrToken {
			t.Errorf("May(%.80q) = %v", tok, e)
		}
	}
}

// All lengths about the bounds, of the least and the greatest bytes that may be.
func TestP131Lengths(t *testing.T) {
	for _, c := range []string{"!", "~", "x"} {
		for n := range 600 {
			weighed(t, strings.Repeat(c, n))
		}
		for n := range 65 {
			if e := token.May(strings.Repeat(c, n)); (e == api.OK) != (n > 0) {
				t.Errorf("May of %d times %s = %v", n, c, e)
			}
		}
	}
}

// Each byte at each place of tokens of some lengths.
func TestP131Bytes(t *testing.T) {
	for _, n := range []int{1, 2, 3, 63, 64} {
		for at := range n {
			for c := range 256 {
				tok := []byte(strings.Repeat("x", n))
				tok[at] = byte(c)
				weighed(t, string(tok))
				if e := token.May(string(tok)); (e == api.OK) != (33 <= c && c <= 126) {
					t.Errorf("May(%q) = %v", tok, e)
				}
			}
		}
	}
}

func TestP131Pairs(t *testing.T) {
	for a := range 256 {
		for b := range 256 {
			weighed(t, string([]byte{byte(a), byte(b)}))
		}
	}
}

// A sum of 0 is one as any other.
func TestP131Nought(t *testing.T) {
	for _, tok := range []string{nought, zero} {
		if n, e := token.Sum(tok); n != 0 || e != api.OK {
			t.Errorf("Sum(%q) = %d, %v", tok, n, e)
		}
	}
}

func TestP132Examples(t *testing.T) {
	s := of(t, account("alice", "tok-a"))
	belongs(t, "alice's", s, "tok-a", "alice")
	belongs(t, "another one", s, "tok-b", "")
	refused(t, s, "tok a", api.ErrToken)
	refused(t, nil, "tok-a", api.ErrNil)
}

// That there is no state is told first, then that there is no token, whatever accounts have its sum.
func TestP132Order(t *testing.T) {
	var l []api.Event
	for i, tok := range nones() {
		l = append(l, account(string(rune('a'+i)), tok))
	}
	for _, s := range []*fold.State{fold.New(), of(t, l...)} {
		for _, tok := range nones() {
			refused(t, s, tok, api.ErrToken)
			refused(t, nil, tok, api.ErrNil)
		}
	}
}

func TestP132Nobody(t *testing.T) {
	told(t, "no event", fold.New(), nil)
	told(t, "bob alone", of(t, account("bob", "a token of bob's that is none")), nil)
}

// A token is known whole, byte by byte; small letters are not capital ones.
func TestP132Alone(t *testing.T) {
	for _, held := range toks() {
		l := []api.Event{account("alice", held), account("bob", "no token")}
		told(t, "alice has "+held, of(t, l...), l)
	}
}

// A sum that is another one in one bit alone is another one.
func TestP132Bits(t *testing.T) {
	for bit := range 64 {
		for _, tok := range []string{"tok-a", nought} {
			s := of(t, api.Event{Kind: api.Account, Who: "alice", Sum: sumOf(tok) ^ 1<<bit})
			belongs(t, "one bit", s, tok, "")
		}
	}
}

// Tokens of one sum are one account's.
func TestP132OneSum(t *testing.T) {
	for _, end := range []string{"", "x", "~~", strings.Repeat("!", 53)} {
		s := of(t, account("alice", nought+end))
		belongs(t, "its own", s, nought+end, "alice")
		belongs(t, "of the same sum", s, zero+end, "alice")
		belongs(t, "of another sum", s, nought+end[:len(end)/2]+"y", "")
	}
}

// An account with the sum 0 has the tokens of that sum, and where there is none, nobody has.
func TestP132Nought(t *testing.T) {
	s := of(t, account("bob", "tok-b"))
	belongs(t, "no account with 0", s, nought, "")
	belongs(t, "no account with 0", s, zero, "")
	if err := s.Apply(api.Event{Kind: api.Account, Who: "alice"}); err != nil {
		t.Fatal(err)
	}
	belongs(t, "alice with 0", s, nought, "alice")
	belongs(t, "alice with 0", s, zero, "alice")
	belongs(t, "alice with 0", s, "tok-b", "bob")
}

// Of several accounts the one of the least name has a token, in whatever order they came to be.
func TestP132Least(t *testing.T) {
	names := []string{"a", "a0", "a9", "aa", "ab", "b", "b10", "b9", "z"}
	for _, step := range []int{1, 2, 4, 5, 7, 8} {
		for first := range names {
			var l []api.Event
			for i := range names {
				l = append(l, account(names[(i*step+first)%len(names)], "tok-a"))
				s := of(t, l...)
				belongs(t, "several", s, "tok-a", whose(l, "tok-a"))
				belongs(t, "several", s, "tok-b", "")
			}
			belongs(t, "all", of(t, l...), "tok-a", "a")
		}
	}
}

// Those that have it stand among others that have not.
func TestP132Among(t *testing.T) {
	l := []api.Event{account("d", "tok-a"), account("c", "tok-b"), account("b", "tok-a"), account("a", "abc"), account("e", "tok-b")}
	s := of(t, l...)
	for tok, want := range map[string]string{"tok-a": "b", "tok-b": "c", "abc": "a", "ABC": ""} {
		belongs(t, "among others", s, tok, want)
	}
}

// Accounts alone have tokens: what teams, packages and releases are called, and their sums, is of no moment.
func TestP132Others(t *testing.T) {
	l := []api.Event{
		account("bob", "tok-b"),
		{Kind: api.Team, Who: "bob", Holder: "alice"},
		{Kind: api.Publish, Who: "bob", Name: "tok-a", Version: "1.0.0", Sum: sumOf("tok-a"), N: 1},
		{Kind: api.Own, Who: "bob", Name: "tok-a", Holder: "alice"},
		{Kind: api.Disown, Who: "bob", Name: "tok-a", Holder: "bob"},
		{Kind: api.Leave, Who: "bob", Holder: "alice", Note: "bob"},
	}
	for n := range len(l) + 1 {
		told(t, "with others", of(t, l[:n]...), l[:n])
	}
	s := of(t, l...)
	belongs(t, "a release's sum", s, "tok-a", "")
	belongs(t, "a team's name", s, "alice", "")
	belongs(t, "an account's name", s, "bob", "")
}
