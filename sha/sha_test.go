package sha_test

import (
	"crypto/sha256"
	"encoding/hex"
	"strings"
	"testing"

	"kiln/sha"
)

// sample is n bytes of all values, so that no two places of a block look alike.
func sample(n int) string {
	b := make([]byte, n)
	for i := range b {
		b[i] = byte(i*131 + i>>8*17 + 7)
	}
	return string(b)
}

func wantSum(t *testing.T, text string, parts ...string) {
	t.Helper()
	if got, want := sha.Sum(parts...), sha.Digest(sha256.Sum256([]byte(text))); got != want {
		t.Errorf("Sum of %d bytes in %d parts: %x, want %x", len(text), len(parts), got, want)
	}
}

func TestSumOfKnownTexts(t *testing.T) {
	known := []struct{ text, hex string }{
		{"", "e3b0c44298fc1c149afbf4c8996fb92427ae41e4649b934ca495991b7852b855"},
		{"abc", "ba7816bf8f01cfea414140de5dae2223b00361a396177a9cb410ff61f20015ad"},
		{"abcdbcdecdefdefgefghfghighijhijkijkljklmklmnlmnomnopnopq", "248d6a61d20638b8e5c026930c3e6039a33ce45964ff2167f6ecedd419db06c1"},
		{strings.Repeat("a", 1000000), "cdc76e5c9914fb9281a1c7e284d73e67f1809a48a497200e046d39ccc7112cd0"},
	}
	for _, k := range known {
		if got := sha.Sum(k.text).Hex(); got != k.hex {
			t.Errorf("Sum of %d bytes: %s, want %s", len(k.text), got, k.hex)
		}
	}
}

// The lengths go through all places at which the 0x80 and the count fill a block, or need one more.
func TestSumOfAllLengths(t *testing.T) {
	text := sample(300)
	for n := range len(text) + 1 {
		wantSum(t, text[:n], text[:n])
	}
	for _, n := range []int{4095, 4096, 4097, 65535, 65536, 65537} {
		wantSum(t, sample(n), sample(n))
	}
}

func TestSumOfBytesOfOneKind(t *testing.T) {
	for _, b := range []string{"\x00", "\x7f", "\x80", "\xff"} {
		for _, n := range []int{1, 55, 56, 63, 64, 65, 128} {
			wantSum(t, strings.Repeat(b, n), strings.Repeat(b, n))
		}
	}
}

func TestSumJoinsParts(t *testing.T) {
	if sha.Sum() != sha.Sum("") || sha.Sum("", "", "") != sha.Sum("") {
		t.Error("no parts, and empty ones, aren't the empty text")
	}
	text := sample(200)
	for i := range len(text) + 1 {
		wantSum(t, text, text[:i], text[i:])
		wantSum(t, text, "", text[:i/2], text[i/2:i], "", text[i:], "")
	}
	wantSum(t, text, strings.Split(text, "")...)
	if sha.Sum("ab", "c") == sha.Sum("c", "ab") {
		t.Error("the order of parts is lost")
	}
}

func TestSumKeepsItsParts(t *testing.T) {
	parts := []string{"ab", "", "c"}
	first := sha.Sum(parts...)
	if parts[0] != "ab" || parts[1] != "" || parts[2] != "c" {
		t.Error("Sum changed its parts")
	}
	if sha.Sum(parts...) != first {
		t.Error("Sum tells another digest the second time")
	}
}

// From 2^29 bytes on the count of bits needs more than four bytes.
func TestSumCountsBitsInEightBytes(t *testing.T) {
	if testing.Short() {
		t.Skip("half a gigabyte")
	}
	part := sample(1 << 20)
	parts := make([]string, 513)
	h := sha256.New()
	for i := range parts {
		parts[i] = part
		h.Write([]byte(part))
	}
	if got := sha.Sum(parts...); string(got[:]) != string(h.Sum(nil)) {
		t.Errorf("Sum of 513 MiB: %x", got)
	}
}

func TestHex(t *testing.T) {
	if got := (sha.Digest{}).Hex(); got != strings.Repeat("0", 64) {
		t.Error("zero digest", got)
	}
	for b := range 256 {
		var d sha.Digest
		d[0], d[b%32], d[31] = 0x0f, byte(b), byte(255-b)
		if got := d.Hex(); got != hex.EncodeToString(d[:]) {
			t.Errorf("Hex of %x: %s", d[:], got)
		}
	}
}

func TestParseIsTheOtherWay(t *testing.T) {
	for i := range 500 {
		d := sha.Sum(sample(i))
		if got, ok := sha.Parse(d.Hex()); !ok || got != d {
			t.Errorf("Parse of %s: %x, %v", d.Hex(), got, ok)
		}
	}
}

func wantNoDigest(t *testing.T, s string) {
	t.Helper()
	if d, ok := sha.Parse(s); ok || d != (sha.Digest{}) {
		t.Errorf("Parse of %q: %x, %v", s, d, ok)
	}
}

func TestParseOfOtherLengths(t *testing.T) {
	for n := range 140 {
		if n != 64 {
			wantNoDigest(t, strings.Repeat("a", n))
		}
	}
}

// Each byte that is no digit of Hex, the capital ones too, is refused wherever it stands.
func TestParseOfOtherSigns(t *testing.T) {
	good := sha.Sum("abc").Hex()
	for b := range 256 {
		if strings.IndexByte("0123456789abcdef", byte(b)) >= 0 {
			continue
		}
		for i := range good {
			wantNoDigest(t, good[:i]+string([]byte{byte(b)})+good[i+1:])
		}
	}
	wantNoDigest(t, strings.ToUpper(good))
	wantNoDigest(t, "0x"+good[2:])
}
