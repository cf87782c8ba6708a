package tests

import (
	"bytes"
	"testing"
)

const secret = 0xa5

// roomy is b with spare room behind it, full of bytes that nobody may see or change.
func roomy(b []byte) []byte {
	all := append(append([]byte{}, b...), bytes.Repeat([]byte{secret}, 64)...)
	return all[:len(b)]
}

func whole(b []byte) []byte { return b[:cap(b)] }

// checkOwnMemory asks of one call with a roomy argument that it leaves the
// argument as it is, and that neither can be changed through the other.
func checkOwnMemory(t *testing.T, name string, arg []byte, call func([]byte) []byte) {
	t.Helper()
	in := roomy(arg)
	before := bytes.Clone(whole(in))
	out := call(in)
	if !bytes.Equal(whole(in), before) {
		t.Errorf("%s: wrote into %x or behind it: %x", name, before, whole(in))
	}
	if bytes.Contains(whole(out)[len(out):], []byte{secret, secret}) {
		t.Errorf("%s: hands out what lies behind %x", name, arg)
	}
	seen := bytes.Clone(out)
	for i := range whole(in) {
		whole(in)[i] ^= 255
	}
	if !bytes.Equal(out, seen) {
		t.Errorf("%s: the answer changes with the argument %x", name, arg)
	}
	changed := bytes.Clone(whole(in))
	for i := range whole(out) {
		whole(out)[i] ^= 255
	}
	if !bytes.Equal(whole(in), changed) {
		t.Errorf("%s: the argument %x changes with the answer", name, arg)
	}
}
