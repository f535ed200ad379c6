package tests

import (
	"crypto/hmac"
	"crypto/sha256"
	"math/rand"
	"strings"
	"testing"

	"loop.example/g00466/impl"
)

func stdHmac(key, text string) string {
	h := hmac.New(sha256.New, []byte(key))
	h.Write([]byte(text))
	return string(h.Sum(nil))
}

// plainHmac is as RFC 2104 tells it, of the library's digest.
func plainHmac(key, text string) string {
	inner, outer := "", ""
	for _, b := range []byte(plainHmacKey(key)) {
		inner += string([]byte{b ^ 0x36})
		outer += string([]byte{b ^ 0x5c})
	}
	return stdDigest(outer + stdDigest(inner+text))
}

func plainHmacKey(key string) string {
	if len(key) > 64 {
		key = stdDigest(key)
	}
	for len(key) < 64 {
		key += "\x00"
	}
	return key
}

func checkHmac(t *testing.T, key, text, want string) {
	t.Helper()
	if got := impl.Hmac(key, text); got != want {
		t.Fatalf("Hmac(%s of %d bytes, %s of %d bytes) = %x; want %x", brief(key), len(key), brief(text), len(text), got, want)
	}
	if !impl.HmacOk(key, text, want) {
		t.Fatalf("HmacOk(%s of %d bytes, %s of %d bytes, %x) is false", brief(key), len(key), brief(text), len(text), want)
	}
}

func checkNotHmac(t *testing.T, key, text string, tags ...string) {
	t.Helper()
	for _, tag := range tags {
		if impl.HmacOk(key, text, tag) {
			t.Fatalf("HmacOk(%q, %q, %x) is true", key, text, tag)
		}
	}
}

// The marks that RFC 4231 tells of SHA-256.
func TestP22MarksOfTheStandard(t *testing.T) {
	long := strings.Repeat("\xaa", 131)
	for _, c := range []struct{ key, text, want string }{
		{strings.Repeat("\x0b", 20), "Hi There", "b0344c61d8db38535ca8afceaf0bf12b881dc200c9833da726e9376c2e32cff7"},
		{"Jefe", "what do ya want for nothing?", "5bdcc146bf60754e6a042426089575c75a003f089d2739839dec58b964ec3843"},
		{strings.Repeat("\xaa", 20), strings.Repeat("\xdd", 50), "773ea91e36800e46854db8ebd09181a72959098b3ef8c122d9635514ced565fe"},
		{unHex(t, "0102030405060708090a0b0c0d0e0f10111213141516171819"), strings.Repeat("\xcd", 50), "82558a389a443c0ea4cc819899f2083a85f0faa3e578f8077a2e3ff46729665b"},
		{long, "Test Using Larger Than Block-Size Key - Hash Key First", "60e431591ee0b67f0d8a26aacbf5b77f8e0bc6213728c5140546040f0ee37f54"},
		{long, "This is a test using a larger than block-size key and a larger than block-size data. The key needs to be hashed before being used by the HMAC algorithm.", "9b09ffa71b942fcb27635fbcd5b0e944bfdc63644f0713938a7f51535c3a35e2"},
	} {
		checkHmac(t, c.key, c.text, unHex(t, c.want))
	}
	// Of one of them only the first 16 bytes are told.
	if got := impl.Hmac(strings.Repeat("\x0c", 20), "Test With Truncation"); got[:16] != unHex(t, "a3b6167473100ee06e0c796c2955552b") {
		t.Errorf("the mark is %x", got)
	}
}

func TestP22Keys(t *testing.T) {
	draw := rand.New(rand.NewSource(48))
	for _, size := range []int{0, 1, 2, 31, 32, 33, 63, 64, 65, 66, 127, 128, 129, 1000, 20000} {
		for _, key := range []string{strings.Repeat("k", size), strings.Repeat("\x00", size), strings.Repeat("\xff", size), drawText(draw, size)} {
			if got := impl.HmacKey(key); got != plainHmacKey(key) || len(got) != 64 || inside(got, key) {
				t.Fatalf("HmacKey of %d bytes is %x", size, got)
			}
			for _, text := range []string{"", "\x00", "text", strings.Repeat("t", 64), drawText(draw, 200)} {
				want := plainHmac(key, text)
				if want != stdHmac(key, text) {
					t.Fatalf("the plain way makes another mark")
				}
				checkHmac(t, key, text, want)
			}
		}
	}
	for size := range 140 {
		key, text := drawText(draw, size), drawText(draw, 139-size)
		checkHmac(t, key, text, stdHmac(key, text))
	}
	// A key and its Digest are one when it is longer than a block; up to a block they are not.
	for size, same := range map[int]bool{63: false, 64: false, 65: true, 500: true} {
		key := strings.Repeat("q", size)
		if got := impl.Hmac(key, "t") == impl.Hmac(impl.Digest(key), "t"); got != same {
			t.Errorf("a key of %d bytes and its Digest are one: %v", size, got)
		}
	}
	// Bytes 0 behind a key are there anyhow, up to a block.
	if impl.Hmac("key", "t") != impl.Hmac("key\x00\x00", "t") || impl.Hmac("key", "t") == impl.Hmac("\x00key", "t") || impl.Hmac("", "t") != impl.Hmac(strings.Repeat("\x00", 64), "t") || impl.Hmac("", "t") == impl.Hmac(strings.Repeat("\x00", 65), "t") {
		t.Errorf("keys that end in bytes 0 are not as they are told")
	}
}

func TestP22WrongTags(t *testing.T) {
	for _, c := range [][2]string{{"", ""}, {"key", "text"}, {strings.Repeat("k", 65), strings.Repeat("t", 100)}} {
		key, text := c[0], c[1]
		tag := impl.Hmac(key, text)
		if !impl.HmacOk(key, text, tag) || len(tag) != 32 {
			t.Fatalf("the mark %x is none", tag)
		}
		for at := range tag {
			for _, by := range []byte{1, 2, 128, 255} {
				checkNotHmac(t, key, text, withByte(tag, at, tag[at]^by))
			}
			checkNotHmac(t, key, text, tag[:at], tag[at+1:])
		}
		checkNotHmac(t, key, text, "", tag+"\x00", "\x00"+tag, tag+tag, strings.Repeat("\x00", 32), text, key)
		checkNotHmac(t, key+"k", text, tag)
		checkNotHmac(t, key, text+"\x00", tag)
		checkNotHmac(t, text+"x", key, tag)
	}
}
