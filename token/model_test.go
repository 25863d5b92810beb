package token_test

import (
	"errors"
	"hash/fnv"
	"regexp"
	"strings"
	"testing"

	"yankline/api"
	"yankline/fold"
	"yankline/token"
)

// nought and zero are tokens whose sum is 0; so two that are unlike have one sum, whatever end both have.
const (
	nought = "!0IC=VloaY"
	zero   = "77kepQFQ8Kl"
)

var mayBe = regexp.MustCompile(`^[!-~]{1,64}$`)

// sumOf is a text's sum, made apart from the program.
func sumOf(text string) uint64 {
	h := fnv.New64a()
	h.Write([]byte(text))
	return h.Sum64()
}

// account is the event by which the account comes to be, with the text's sum.
func account(who, text string) api.Event {
	return api.Event{Kind: api.Account, Who: who, Sum: sumOf(text)}
}

// of is the state of the events.
func of(t *testing.T, l ...api.Event) *fold.State {
	t.Helper()
	s, _, err := fold.Of(l...)
	if err != nil {
		t.Fatalf("Of(%v): %v", l, err)
	}
	return s
}

// whose is the account that has tok by the events, all of which fit; nothing, if it is nobody's.
func whose(l []api.Event, tok string) string {
	least := ""
	for _, e := range l {
		if e.Kind == api.Account && e.Sum == sumOf(tok) && (least == "" || e.Who < least) {
			least = e.Who
		}
	}
	return least
}

// toks are texts that may be tokens.
func toks() []string {
	return []string{
		"tok-a", "tok-b", "abc", "ABC", "Abc", "a", "b", "!", "~", "0", "-", "\"", "\\", "%00", "alice", "bob",
		nought, zero, nought + "x", zero + "x", nought + "~~", zero + "~~",
		strings.Repeat("!", 64), strings.Repeat("~", 64), strings.Repeat("~", 63), "!" + strings.Repeat("~", 63),
	}
}

// nones are texts that may be none.
func nones() []string {
	return []string{
		"", " ", "a b", " abc", "abc ", "abc\n", "\nabc", "a\tb", "\x00", "abc\x00", "\x7f", "a\x7fb", "\x80", "\xff", "é", "tok-é", "\u00a0", "ａ",
		strings.Repeat("x", 65), strings.Repeat("x", 64) + " ", strings.Repeat("x", 64+256), strings.Repeat("x", 1<<17), strings.Repeat(" ", 64), strings.Repeat("\xff", 1<<17),
	}
}

// faulty holds that err is the fault of that number, of nothing, at no place and with nothing under it.
func faulty(t *testing.T, what string, err error, want api.Errno) {
	t.Helper()
	var f *api.Fault
	if !errors.As(err, &f) || *f != (api.Fault{Code: want, At: -1}) || !errors.Is(err, want) {
		t.Errorf("%s: %v, want %v", what, err, want)
	}
}

// refused holds that neither call takes tok, by that fault.
func refused(t *testing.T, s *fold.State, tok string, want api.Errno) {
	t.Helper()
	who, err := token.Who(s, tok)
	faulty(t, "Who", err, want)
	free, too := token.Free(s, tok)
	faulty(t, "Free", too, want)
	if who != "" || free {
		t.Errorf("beside %v: Who(%.80q) = %q, Free = %t", want, tok, who, free)
	}
}

// belongs holds that tok, which may be a token, is that account's; nobody's, if that is nothing.
func belongs(t *testing.T, what string, s *fold.State, tok, want string) {
	t.Helper()
	who, err := token.Who(s, tok)
	if want == "" {
		faulty(t, what, err, api.ErrNone)
	} else if err != nil {
		t.Errorf("%s: Who(%q): %v, want %s", what, tok, err, want)
	}
	if who != want {
		t.Errorf("%s: Who(%q) = %q, want %q", what, tok, who, want)
	}
	if free, err := token.Free(s, tok); free != (want == "") || err != nil {
		t.Errorf("%s: Free(%q) = %t, %v, of %q", what, tok, free, err, want)
	}
}

// told holds that of all texts a state tells what its events do.
func told(t *testing.T, what string, s *fold.State, l []api.Event) {
	t.Helper()
	for _, tok := range toks() {
		belongs(t, what, s, tok, whose(l, tok))
	}
	for _, tok := range nones() {
		refused(t, s, tok, api.ErrToken)
	}
}
