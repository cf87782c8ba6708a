package tests

import (
	"bytes"
	"fmt"
	"reflect"
	"testing"
)

const secret = 0xa5

// roomy is b with spare room behind it, full of bytes that nobody may see or change.
func roomy(b []byte) []byte {
	all := append(append([]byte{}, b...), bytes.Repeat([]byte{secret}, 64)...)
	return all[:len(b)]
}

func whole(b []byte) []byte { return b[:cap(b)] }

// checkOwnMemory asks of one call with a roomy argument that it leaves the
// argument as it is, and that neither can be changed through the other.
func checkOwnMemory(t *testing.T, name string, arg []byte, call func([]byte) []byte) {
	t.Helper()
	in := roomy(arg)
	before := bytes.Clone(whole(in))
	out := call(in)
	if !bytes.Equal(whole(in), before) {
		t.Errorf("%s: wrote into %x or behind it: %x", name, before, whole(in))
	}
	if bytes.Contains(whole(out)[len(out):], []byte{secret, secret}) {
		t.Errorf("%s: hands out what lies behind %x", name, arg)
	}
	seen := bytes.Clone(out)
	for i := range whole(in) {
		whole(in)[i] ^= 255
	}
	if !bytes.Equal(out, seen) {
		t.Errorf("%s: the answer changes with the argument %x", name, arg)
	}
	changed := bytes.Clone(whole(in))
	for i := range whole(out) {
		whole(out)[i] ^= 255
	}
	if !bytes.Equal(whole(in), changed) {
		t.Errorf("%s: the argument %x changes with the answer", name, arg)
	}
}

// roomyCopy is v in memory of its own, each list in it with spare room behind
// it, full of what nobody may see or change.
func roomyCopy(v any) any {
	return copyValue(reflect.ValueOf(v), func(s reflect.Value) reflect.Value {
		out := reflect.MakeSlice(s.Type(), s.Len(), s.Len()+3)
		room := out.Slice(0, out.Cap())
		for i := s.Len(); i < room.Len(); i++ {
			fillSecret(room.Index(i))
		}
		return out
	}).Interface()
}

// wholeCopy is v in memory of its own, each list in it with all that lies behind it.
func wholeCopy(v any) any {
	return copyValue(reflect.ValueOf(v), func(s reflect.Value) reflect.Value {
		return reflect.MakeSlice(s.Type(), s.Cap(), s.Cap())
	}).Interface()
}

func copyValue(v reflect.Value, room func(reflect.Value) reflect.Value) reflect.Value {
	out := reflect.New(v.Type()).Elem()
	out.Set(v)
	switch v.Kind() {
	case reflect.Struct:
		for i := range v.NumField() {
			out.Field(i).Set(copyValue(v.Field(i), room))
		}
	case reflect.Slice:
		out.Set(room(v))
		if isBytes(v) {
			reflect.Copy(out, v.Slice(0, out.Len()))
			break
		}
		for i := range out.Len() {
			out.Index(i).Set(copyValue(v.Slice(0, out.Len()).Index(i), room))
		}
	}
	return out
}

// isBytes tells what has no lists in it and may be long, so that it is not gone through.
func isBytes(v reflect.Value) bool { return v.Type().Elem().Kind() == reflect.Uint8 }

func fillSecret(v reflect.Value) {
	switch v.Kind() {
	case reflect.Struct:
		for i := range v.NumField() {
			fillSecret(v.Field(i))
		}
	case reflect.Slice:
		v.Set(reflect.MakeSlice(v.Type(), 2, 2))
		fillSecret(v.Index(0))
		fillSecret(v.Index(1))
	case reflect.String:
		v.SetString("secret")
	case reflect.Bool:
		v.SetBool(true)
	case reflect.Uint8:
		v.SetUint(secret)
	default:
		v.SetInt(secret)
	}
}

type span struct {
	from uintptr
	to   uintptr
	name string
	// The list itself, so that its memory is not given away while the span is asked.
	list reflect.Value
}

// spansOf tells where the lists in v lie, with their spare room.
func spansOf(v reflect.Value, name string) []span {
	var out []span
	switch v.Kind() {
	case reflect.Struct:
		for i := range v.NumField() {
			out = append(out, spansOf(v.Field(i), name+"."+v.Type().Field(i).Name)...)
		}
	case reflect.Slice:
		if v.Cap() > 0 {
			out = append(out, span{v.Pointer(), v.Pointer() + uintptr(v.Cap())*v.Type().Elem().Size(), name, v})
		}
		for i := 0; i < v.Len() && !isBytes(v); i++ {
			out = append(out, spansOf(v.Index(i), fmt.Sprint(name, "[", i, "]"))...)
		}
	}
	return out
}

// secretsIn tells which lists in v have a secret in the room behind them.
func secretsIn(v reflect.Value, name string) []string {
	var out []string
	switch v.Kind() {
	case reflect.Struct:
		for i := range v.NumField() {
			out = append(out, secretsIn(v.Field(i), name+"."+v.Type().Field(i).Name)...)
		}
	case reflect.Slice:
		hidden := reflect.New(v.Type().Elem()).Elem()
		fillSecret(hidden)
		for i := v.Len(); i < v.Cap(); i++ {
			if reflect.DeepEqual(v.Slice(0, v.Cap()).Index(i).Interface(), hidden.Interface()) {
				out = append(out, name)
			}
		}
		for i := 0; i < v.Len() && !isBytes(v); i++ {
			out = append(out, secretsIn(v.Index(i), fmt.Sprint(name, "[", i, "]"))...)
		}
	}
	return out
}

// checkMemory asks of a call with these arguments, made roomy, that it writes
// nothing into them or behind them, and that no two lists share memory of which
// one at least is the answer's.
func checkMemory(t *testing.T, name string, args []any, call func(args []any) []any) {
	t.Helper()
	var given, before []any
	for _, a := range args {
		r := roomyCopy(a)
		given = append(given, r)
		before = append(before, wholeCopy(r))
	}
	answers := call(given)
	var spans []span
	for i, a := range answers {
		v, place := reflect.ValueOf(a), fmt.Sprint("answer ", i)
		spans = append(spans, spansOf(v, place)...)
		for _, s := range secretsIn(v, place) {
			t.Errorf("%s: %s has what lay behind an argument's list", name, s)
		}
	}
	own := len(spans)
	for i, a := range given {
		spans = append(spans, spansOf(reflect.ValueOf(a), fmt.Sprint("argument ", i))...)
		if !reflect.DeepEqual(wholeCopy(a), before[i]) {
			t.Errorf("%s: wrote into argument %d or behind a list of it: %v, was %v", name, i, wholeCopy(a), before[i])
		}
	}
	for i, a := range spans[:own] {
		for _, b := range spans[i+1:] {
			if a.from < b.to && b.from < a.to {
				t.Errorf("%s: %s shares memory with %s", name, a.name, b.name)
			}
		}
	}
}

// same tells whether a and b are the same value; an empty list and nil are.
func same(a any, b any) bool {
	return sameValue(reflect.ValueOf(a), reflect.ValueOf(b))
}

func sameValue(a reflect.Value, b reflect.Value) bool {
	if a.Type() != b.Type() {
		return false
	}
	switch a.Kind() {
	case reflect.Struct:
		for i := range a.NumField() {
			if !sameValue(a.Field(i), b.Field(i)) {
				return false
			}
		}
		return true
	case reflect.Slice:
		if a.Len() != b.Len() {
			return false
		}
		if isBytes(a) {
			return bytes.Equal(a.Bytes(), b.Bytes())
		}
		for i := range a.Len() {
			if !sameValue(a.Index(i), b.Index(i)) {
				return false
			}
		}
		return true
	}
	return a.Equal(b)
}
