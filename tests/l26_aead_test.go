package tests

import (
	"encoding/binary"
	"math/rand"
	"strings"
	"testing"

	"loop.example/g00466/impl"
)

func plainTagInput(beside, sealed string) string {
	var text []byte
	for _, part := range []string{beside, sealed} {
		text = append(text, part...)
		for len(text)%16 != 0 {
			text = append(text, 0)
		}
	}
	text = binary.LittleEndian.AppendUint64(text, uint64(len(beside)))
	return string(binary.LittleEndian.AppendUint64(text, uint64(len(sealed))))
}

func plainSeal(key, nonce, beside, text string) (string, bool) {
	stream, ok := plainStream(key, nonce, 1, len(text))
	if !ok || len(text) > 5000 {
		return "", false
	}
	sealed := plainXor(text, stream)
	once, _ := plainStream(key, nonce, 0, 32)
	tag, _ := plainPoly(once, plainTagInput(beside, sealed))
	return sealed + tag, true
}

// sealedText is what stands sealed, with all that it is sealed by.
type sealedText struct{ key, nonce, beside, text, sealed string }

func checkNotSealed(t *testing.T, s sealedText) {
	t.Helper()
	if got, ok := impl.AeadSeal(s.key, s.nonce, s.beside, s.text); ok || got != "" {
		t.Fatalf("AeadSeal(%x, %x, %s, %s of %d bytes) = %s, %v", s.key, s.nonce, brief(s.beside), brief(s.text), len(s.text), brief(got), ok)
	}
}

func checkNotOpen(t *testing.T, s sealedText) {
	t.Helper()
	if got, ok := impl.AeadOpen(s.key, s.nonce, s.beside, s.sealed); ok || got != "" {
		t.Fatalf("AeadOpen(%x, %x, %s, %s of %d bytes) = %s, %v", s.key, s.nonce, brief(s.beside), brief([]byte(s.sealed)), len(s.sealed), brief(got), ok)
	}
}

// mustSealed seals as the plain way does, and opens it again.
func mustSealed(t *testing.T, key, nonce, beside, text string) sealedText {
	t.Helper()
	want, wantOk := plainSeal(key, nonce, beside, text)
	got, ok := impl.AeadSeal(key, nonce, beside, text)
	if !ok || !wantOk || got != want || len(got) != len(text)+16 {
		t.Fatalf("AeadSeal(%x, %x, %s, %s of %d bytes) = %s, %v; want %s", key, nonce, brief(beside), brief(text), len(text), brief([]byte(got)), ok, brief([]byte(want)))
	}
	back, ok := impl.AeadOpen(key, nonce, beside, got)
	if !ok || back != text || inside(back, got) {
		t.Fatalf("AeadOpen(%x, %x, %s, %s) = %s, %v; want %s", key, nonce, brief(beside), brief([]byte(got)), brief(back), ok, brief(text))
	}
	return sealedText{key, nonce, beside, text, got}
}

// What RFC 8439 tells (2.8.2).
func TestP26TheStandard(t *testing.T) {
	s := mustSealed(t, bytesFrom(0x80, 32), unHex(t, "070000004041424344454647"), unHex(t, "50515253c0c1c2c3c4c5c6c7"), sunscreen)
	want := unHex(t, `d31a8d34648e60db7b86afbc53ef7ec2 a4aded51296e08fea9e2b5a736ee62d6 3dbea45e8ca9671282fafb69da92728b 1a71de0a9e060b2905d6a5b67ecd3b36
		92ddbd7f2d778b8c9803aee328091b58 fab324e4fad675945585808b4831d7bc 3ff4def08e4b7a9de576d26586cec64b 6116 1ae10b594f09e26a7e902ecbd0600691`)
	if s.sealed != want {
		t.Errorf("sealed is %x; want %x", s.sealed, want)
	}
	if got := impl.TagInput(s.beside, want[:114]); got != s.beside+strings.Repeat("\x00", 4)+want[:114]+strings.Repeat("\x00", 14)+"\x0c"+strings.Repeat("\x00", 7)+"\x72"+strings.Repeat("\x00", 7) {
		t.Errorf("TagInput is %x", got)
	}
}

func TestP26TagInput(t *testing.T) {
	for _, beside := range []int{0, 1, 15, 16, 17, 31, 32, 300, 70000} {
		for _, sealed := range []int{0, 1, 15, 16, 17, 255, 256, 5000, 70000} {
			b, s := strings.Repeat("b", beside), strings.Repeat("\x00", sealed)
			got := impl.TagInput(b, s)
			if got != plainTagInput(b, s) || len(got)%16 != 0 {
				t.Fatalf("TagInput of %d and %d bytes is %s", beside, sealed, brief([]byte(got)))
			}
		}
	}
	if impl.TagInput("", "") != strings.Repeat("\x00", 16) || impl.TagInput("a", "") == impl.TagInput("", "a") || impl.TagInput("a\x00", "") == impl.TagInput("a", "") {
		t.Errorf("texts of nothing are not as they are told")
	}
}

// What is sealed opens again, with what stands beside it, and is 16 bytes longer.
func TestP26OpensAgain(t *testing.T) {
	draw := rand.New(rand.NewSource(59))
	key, nonce := drawText(draw, 32), drawText(draw, 12)
	for _, size := range []int{0, 1, 2, 15, 16, 17, 31, 32, 33, 63, 64, 65, 127, 128, 129, 1000, 4999, 5000} {
		for _, beside := range []int{0, 1, 15, 16, 17, 100, 6000} {
			mustSealed(t, key, nonce, drawText(draw, beside), drawText(draw, size))
		}
		mustSealed(t, strings.Repeat("\x00", 32), strings.Repeat("\x00", 12), "", strings.Repeat("\x00", size))
		mustSealed(t, strings.Repeat("\xff", 32), strings.Repeat("\xff", 12), strings.Repeat("\xff", size), strings.Repeat("\xff", size))
	}
	for range 200 {
		mustSealed(t, drawText(draw, 32), drawText(draw, 12), drawText(draw, draw.Intn(60)), drawText(draw, draw.Intn(200)))
	}
	// Of just 16 bytes: the tag alone, of no text.
	s := mustSealed(t, key, nonce, "beside", "")
	if len(s.sealed) != 16 {
		t.Errorf("a text of nothing is sealed in %d bytes", len(s.sealed))
	}
}

func TestP26WrongLengths(t *testing.T) {
	draw := rand.New(rand.NewSource(60))
	s := mustSealed(t, drawText(draw, 32), drawText(draw, 12), "beside", "some text")
	for _, size := range []int{0, 1, 11, 12, 13, 16, 31, 33, 64} {
		other := s
		other.key = strings.Repeat("k", size)
		checkNotSealed(t, other)
		checkNotOpen(t, other)
		if size != 12 {
			other = s
			other.nonce = strings.Repeat("n", size)
			checkNotSealed(t, other)
			checkNotOpen(t, other)
			other.text, other.sealed = "", s.sealed[:16]
			checkNotSealed(t, other)
			checkNotOpen(t, other)
		}
	}
	for _, size := range []int{5001, 5002, 10000, 10001, 100000} {
		other := s
		other.text = strings.Repeat("t", size)
		checkNotSealed(t, other)
	}
	// As it would be sealed, if there could be so much.
	long := strings.Repeat("t", 5001)
	stream, _ := plainStream(s.key, s.nonce, 1, 5001)
	once, _ := plainStream(s.key, s.nonce, 0, 32)
	tag, _ := plainPoly(once, plainTagInput(s.beside, plainXor(long, stream)))
	other := s
	other.sealed = plainXor(long, stream) + tag
	checkNotOpen(t, other)
	for _, size := range []int{0, 1, 8, 14, 15, 16, 17, 24} {
		other := s
		other.sealed = s.sealed[:size]
		checkNotOpen(t, other)
		other.sealed = s.sealed[len(s.sealed)-size:]
		checkNotOpen(t, other)
	}
	for _, size := range []int{5016, 5017, 5018, 20000} {
		other.sealed = strings.Repeat("x", size)
		checkNotOpen(t, other)
	}
}

// One byte turned, of what is sealed, of the key, of the nonce or of what stands beside.
func TestP26TurnedBytes(t *testing.T) {
	draw := rand.New(rand.NewSource(61))
	for _, size := range []int{0, 1, 16, 40} {
		s := mustSealed(t, drawText(draw, 32), drawText(draw, 12), drawText(draw, 20), drawText(draw, size))
		for at := range len(s.sealed) {
			for _, by := range []byte{1, 16, 128, 255} {
				other := s
				other.sealed = withByte(s.sealed, at, s.sealed[at]^by)
				checkNotOpen(t, other)
			}
		}
		for at := range 32 {
			other := s
			other.key = withByte(s.key, at, s.key[at]^1)
			checkNotOpen(t, other)
		}
		for at := range 12 {
			other := s
			other.nonce = withByte(s.nonce, at, s.nonce[at]^1)
			checkNotOpen(t, other)
		}
		for at := range 20 {
			other := s
			other.beside = withByte(s.beside, at, s.beside[at]^1)
			checkNotOpen(t, other)
		}
		for _, beside := range []string{"", s.beside[:19], s.beside + "\x00", s.sealed} {
			other := s
			other.beside = beside
			checkNotOpen(t, other)
		}
		for _, sealed := range []string{s.sealed + "\x00", "\x00" + s.sealed, s.sealed + s.sealed, strings.Repeat("\x00", len(s.sealed)), s.sealed[1:], s.sealed[:len(s.sealed)-1]} {
			other := s
			other.sealed = sealed
			checkNotOpen(t, other)
		}
	}
	// What stands beside can't be taken for what is sealed.
	s := mustSealed(t, drawText(draw, 32), drawText(draw, 12), "", strings.Repeat("t", 32))
	other := s
	other.beside, other.sealed = s.sealed[:16], s.sealed[16:]
	checkNotOpen(t, other)
}
