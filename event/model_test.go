package event_test

import (
	"encoding/binary"
	"encoding/hex"
	"fmt"
	"reflect"
	"regexp"
	"slices"
	"strconv"
	"strings"

	"yankline/api"
	"yankline/span"
	"yankline/version"
)

// A model of events, as the chapter's words have them: each kind with its word and the fields that it names, in order.
type schema struct {
	kind   api.Kind
	word   string
	fields []string
}

func schemas() []schema {
	var l []schema
	for i, s := range []string{
		"account Who Sum",
		"publish Who Name Version Needs Sum N Size",
		"yank Who Name Version",
		"unyank Who Name Version",
		"deprecate Who Name Version Note",
		"own Who Name Holder",
		"disown Who Name Holder",
		"team Who Holder",
		"join Who Holder Note",
		"leave Who Holder Note",
	} {
		words := strings.Fields(s)
		l = append(l, schema{api.Kind(i + 1), words[0], words[1:]})
	}
	return l
}

func schemaOf(k api.Kind) (schema, bool) {
	if k < 1 || k > 10 {
		return schema{}, false
	}
	return schemas()[k-1], true
}

var (
	holderForm = regexp.MustCompile(`^[a-z][a-z0-9]{0,63}$`)
	nameForm   = regexp.MustCompile(`^[a-z0-9]+(-[a-z0-9]+)*$`)
)

// fits is whether a field that is named may be so.
func fits(k api.Kind, field string, v any) bool {
	switch field {
	case "Who", "Holder":
		return holderForm.MatchString(v.(string))
	case "Name":
		return isName(v.(string))
	case "Version":
		return version.Is(v.(string))
	case "Note":
		if k == api.Deprecate {
			return len(v.(string)) <= 256
		}
		return holderForm.MatchString(v.(string))
	case "Needs":
		l := v.([]api.Need)
		ok := len(l) <= 64
		for i, n := range l {
			ok = ok && isName(n.Name) && span.Is(n.Span) && (i == 0 || l[i-1].Name < n.Name)
		}
		return ok
	case "N":
		return v.(uint32) > 0
	case "Size":
		return v.(uint32) <= 65536
	}
	return true
}

func isName(s string) bool { return len(s) <= 64 && nameForm.MatchString(s) }

// may is whether e may be.
func may(e api.Event) bool {
	s, ok := schemaOf(e.Kind)
	v := reflect.ValueOf(e)
	for i := 1; ok && i < v.NumField(); i++ {
		field := v.Type().Field(i).Name
		switch f := v.Field(i); {
		case slices.Contains(s.fields, field):
			ok = fits(e.Kind, field, f.Interface())
		case f.Kind() == reflect.Slice:
			ok = f.Len() == 0
		default:
			ok = f.IsZero()
		}
	}
	return ok
}

// values are the fields that e names, in order.
func values(e api.Event) []any {
	s, _ := schemaOf(e.Kind)
	var l []any
	for _, field := range s.fields {
		l = append(l, reflect.ValueOf(e).FieldByName(field).Interface())
	}
	return l
}

func textBytes(s string) string { return numberBytes(len(s)) + s }

func numberBytes[T int | uint32](x T) string { return string(binary.AppendUvarint(nil, uint64(x))) }

// bytesOf is the bytes of an event that may be.
func bytesOf(e api.Event) string {
	s := string([]byte{byte(e.Kind)})
	for _, v := range values(e) {
		switch v := v.(type) {
		case string:
			s += textBytes(v)
		case uint64:
			s += string(binary.BigEndian.AppendUint64(nil, v))
		case uint32:
			s += numberBytes(v)
		case []api.Need:
			s += numberBytes(len(v))
			for _, n := range v {
				s += textBytes(n.Name) + textBytes(n.Span)
			}
		}
	}
	return s
}

// lineOf is the line of an event that may be.
func lineOf(e api.Event) string {
	sch, _ := schemaOf(e.Kind)
	s := sch.word
	for i, v := range values(e) {
		switch v := v.(type) {
		case string:
			if e.Kind == api.Deprecate && sch.fields[i] == "Note" {
				v = hex.EncodeToString([]byte(v))
				if v == "" {
					v = "-"
				}
			}
			s += " " + v
		case uint64:
			s += fmt.Sprintf(" %016x", v)
		case uint32:
			s += fmt.Sprintf(" %d", v)
		case []api.Need:
			s += fmt.Sprintf(" %d", len(v))
			for _, n := range v {
				s += " " + n.Name + " " + strings.Join(strings.Split(n.Span, " "), "_")
			}
		}
	}
	return s
}

// same is whether two events have all the same.
func same(a, b api.Event) bool {
	for _, e := range []*api.Event{&a, &b} {
		if len(e.Needs) == 0 {
			e.Needs = nil
		}
	}
	return reflect.DeepEqual(a, b)
}

// taker takes fields from bytes, until one is wrong: why, and where that one began.
type taker struct {
	s  string
	at int
	no api.Errno
}

func (r *taker) fault(e api.Errno, at int) {
	if r.no == api.OK {
		r.no, r.at = e, at
	}
}

func (r *taker) number(most uint64) uint64 {
	x, n := binary.Uvarint([]byte(r.s[r.at:min(len(r.s), r.at+11)]))
	switch {
	case r.no != api.OK:
		return 0
	case n < 0, n == 0 && len(r.s)-r.at >= 10, n > 1 && r.s[r.at+n-1] == 0:
		r.fault(api.ErrForm, r.at)
	case n == 0:
		r.fault(api.ErrShort, r.at)
	case x > most:
		r.fault(api.ErrMost, r.at)
	default:
		r.at += n
		return x
	}
	return 0
}

func (r *taker) bytes(n uint64, from int) string {
	if r.no == api.OK && uint64(len(r.s)-r.at) < n {
		r.fault(api.ErrShort, from)
	}
	if r.no != api.OK {
		return ""
	}
	r.at += int(n)
	return r.s[r.at-int(n) : r.at]
}

func (r *taker) text() string {
	from := r.at
	return r.bytes(r.number(65536), from)
}

func (r *taker) word() uint64 {
	if s := r.bytes(8, r.at); s != "" {
		return binary.BigEndian.Uint64([]byte(s))
	}
	return 0
}

func (r *taker) needs() []api.Need {
	var l []api.Need
	for n := r.number(64); n > 0 && r.no == api.OK; n-- {
		l = append(l, api.Need{Name: r.text(), Span: r.text()})
	}
	return l
}

// modelRead is the event whose bytes s is; else the number of layer 2's fault, if there is one, and where.
func modelRead(s string) (e api.Event, is bool, under api.Errno, at int) {
	r := &taker{s: s}
	if k := r.bytes(1, 0); k != "" {
		e.Kind = api.Kind(k[0])
	}
	sch, ok := schemaOf(e.Kind)
	v := reflect.ValueOf(&e).Elem()
	for _, field := range sch.fields {
		switch f := v.FieldByName(field); f.Kind() {
		case reflect.String:
			f.SetString(r.text())
		case reflect.Uint64:
			f.SetUint(r.word())
		case reflect.Uint32:
			f.SetUint(r.number(4294967295))
		default:
			f.Set(reflect.ValueOf(r.needs()))
		}
	}
	if ok && r.no == api.OK && r.at < len(s) {
		r.fault(api.ErrRest, r.at)
	}
	switch {
	case r.no != api.OK:
		return api.Event{}, false, r.no, r.at
	case !may(e):
		return api.Event{}, false, api.OK, 0
	}
	return e, true, api.OK, 0
}

var (
	decimal = regexp.MustCompile(`^(0|[1-9][0-9]{0,9})$`)
	wordHex = regexp.MustCompile(`^[0-9a-f]{16}$`)
	noteHex = regexp.MustCompile(`^([0-9a-f]{2}){1,256}$`)
)

// parts takes a line's parts, until one is wrong.
type parts struct {
	l  []string
	ok bool
}

func (p *parts) next() string {
	if len(p.l) == 0 {
		p.ok = false
		return ""
	}
	s := p.l[0]
	p.l = p.l[1:]
	return s
}

func (p *parts) number(bits int) uint64 {
	s := p.next()
	x, err := strconv.ParseUint(s, 10, bits)
	p.ok = p.ok && decimal.MatchString(s) && err == nil
	return x
}

func (p *parts) word() uint64 {
	s := p.next()
	p.ok = p.ok && wordHex.MatchString(s)
	x, _ := strconv.ParseUint(s, 16, 64)
	return x
}

func (p *parts) note() string {
	s := p.next()
	if s == "-" {
		return ""
	}
	p.ok = p.ok && noteHex.MatchString(s)
	b, _ := hex.DecodeString(s)
	return string(b)
}

func (p *parts) needs() []api.Need {
	var l []api.Need
	for n := p.number(8); n > 0 && p.ok; n-- {
		name, said := p.next(), p.next()
		p.ok = p.ok && !strings.Contains(said, " ")
		l = append(l, api.Need{Name: name, Span: strings.ReplaceAll(said, "_", " ")})
	}
	return l
}

// modelReadText is the event whose line s is, and whether there is one.
func modelReadText(s string) (api.Event, bool) {
	p := &parts{strings.Split(s, " "), true}
	word := p.next()
	i := slices.IndexFunc(schemas(), func(s schema) bool { return s.word == word })
	if i < 0 {
		return api.Event{}, false
	}
	e := api.Event{Kind: api.Kind(i + 1)}
	v := reflect.ValueOf(&e).Elem()
	for _, field := range schemas()[i].fields {
		switch f := v.FieldByName(field); {
		case field == "Note" && e.Kind == api.Deprecate:
			f.SetString(p.note())
		case f.Kind() == reflect.String:
			f.SetString(p.next())
		case f.Kind() == reflect.Uint64:
			f.SetUint(p.word())
		case f.Kind() == reflect.Uint32:
			f.SetUint(p.number(32))
		default:
			f.Set(reflect.ValueOf(p.needs()))
		}
	}
	if !p.ok || len(p.l) > 0 || !may(e) {
		return api.Event{}, false
	}
	return e, true
}
