package rule_test

import (
	"errors"
	"fmt"
	"slices"
	"testing"

	"yankline/api"
	"yankline/rule"
)

// holder is an error of another type that has one under it.
type holder struct{ under error }

func (h holder) Error() string { return "held" }
func (h holder) Unwrap() error { return h.under }

// liar is an error that says that it is each other one, and hands out none.
type liar struct{}

func (liar) Error() string { return "no fault" }
func (liar) As(any) bool   { return true }

// over is a fault of that number, over another error.
func over(no api.Errno, under error) error {
	return &api.Fault{Code: no, What: "a name", At: 7, Under: under}
}

func TestP152Codes(t *testing.T) {
	var none *api.Fault
	two := over(api.ErrRefused, over(api.ErrLast, nil))
	for _, c := range []struct {
		what string
		e    error
		want []api.Errno
	}{
		{"nil", nil, nil},
		{"a text", errors.New("error 150"), nil},
		{"a number", api.ErrRefused, nil},
		{"the number 0", api.OK, nil},
		{"a number that is held", holder{api.ErrRefused}, nil},
		{"a holder of nothing", holder{}, nil},
		{"a fault that is not there", none, nil},
		{"a holder of that", holder{none}, nil},
		{"a liar", liar{}, nil},
		{"a fault", over(api.ErrNil, nil), []api.Errno{1}},
		{"a zero fault", &api.Fault{}, []api.Errno{0}},
		{"a fault of no known number", over(-5, over(99999, nil)), []api.Errno{-5, 99999}},
		{"two", two, []api.Errno{150, 156}},
		{"three, one twice", over(api.ErrLog, over(api.ErrRefused, over(api.ErrRefused, nil))), []api.Errno{170, 150, 150}},
		{"over a text", over(api.ErrRefused, errors.New("x")), []api.Errno{150}},
		{"over a number", over(api.ErrRefused, api.ErrLast), []api.Errno{150}},
		{"over a fault that is not there", over(api.ErrRefused, none), []api.Errno{150}},
		{"over a liar", over(api.ErrRefused, liar{}), []api.Errno{150}},
		{"over a zero fault", over(api.ErrRefused, &api.Fault{}), []api.Errno{150, 0}},
		{"held", holder{two}, []api.Errno{150, 156}},
		{"held twice", fmt.Errorf("a: %w", fmt.Errorf("b: %w", two)), []api.Errno{150, 156}},
		{"held between", over(api.ErrLog, holder{two}), []api.Errno{170, 150, 156}},
		{"joined", errors.Join(errors.New("x"), two), []api.Errno{150, 156}},
	} {
		if got := rule.Codes(c.e); !slices.Equal(got, c.want) {
			t.Errorf("Codes of %s = %v, want %v", c.what, got, c.want)
		}
	}
}

// As many faults as may be nested are told, all of them and in order; one that is under itself is no reason not to end.
func TestP152Deep(t *testing.T) {
	const most = 1 << 16
	var e error
	for i := range most {
		e = over(api.Errno(most-i), e)
	}
	l := rule.Codes(e)
	if len(l) != most {
		t.Fatalf("of %d faults %d are told", most, len(l))
	}
	for i, no := range l {
		if no != api.Errno(i+1) {
			t.Fatalf("of the faults one by one downward the one at %d is %v", i, no)
		}
	}
	ring := &api.Fault{Code: api.ErrRefused}
	ring.Under = ring
	rule.Codes(ring)
}

// numbers are all that a fault may have.
func numbers() []api.Errno {
	var l []api.Errno
	for n := range 400 {
		l = append(l, api.Errno(n))
	}
	return l
}

// Of why an event is refused errors.Is holds for two numbers, and for no other one; Codes tells both.
func TestP154(t *testing.T) {
	s := of(t, events(base()...))
	told := map[api.Errno]int{}
	for _, line := range []string{
		"account alice 0000000000000001", "account erin 0000000000000000", "yank erin foo 1.0.0", "yank alice new 1.0.0", "yank carol foo 1.0.0", "yank alice foo 1.1.0",
		publish("carol", "page", "1.0.0"), publish("carol", "f-oo", "1.0.0"), publish("alice", "foo", "1.0.0"), "own alice foo erin", "own alice foo dev",
		"disown bob solo ops", "team alice dev", "join carol dev carol", "join alice dev erin", "leave bob ops bob", "",
	} {
		e := api.Event{Kind: api.Team, Who: "alice", Holder: "-"}
		if line != "" {
			e = read(line)
		}
		err := rule.Check(s, e)
		l := rule.Codes(err)
		if len(l) != 2 || l[0] != api.ErrRefused {
			t.Fatalf("Codes of what is told of %q = %v", line, l)
		}
		told[l[1]]++
		for _, no := range numbers() {
			if errors.Is(err, no) != slices.Contains(l, no) {
				t.Errorf("of what is told of %q, %v, errors.Is(.., %v) = %t", line, err, no, errors.Is(err, no))
			}
		}
	}
	for _, no := range []api.Errno{api.ErrEvent, api.ErrWho, api.ErrThere, api.ErrReserved, api.ErrLike, api.ErrOwner, api.ErrNone, api.ErrLast, api.ErrMember} {
		if told[no] == 0 {
			t.Errorf("%v is told of nothing", no)
		}
	}
	_, _, err := rule.All(read("account alice 0000000000000001"), read("disown alice foo alice"))
	if !errors.Is(err, api.ErrRefused) || !errors.Is(err, api.ErrNone) || errors.Is(err, api.ErrLast) || !slices.Equal(rule.Codes(err), []api.Errno{150, 6}) {
		t.Errorf("All: %v", err)
	}
	if err := rule.Check(nil, read("disown alice foo alice")); errors.Is(err, api.ErrRefused) || !slices.Equal(rule.Codes(err), []api.Errno{1}) {
		t.Errorf("without a state: %v", err)
	}
}
