package tests

import (
	"math"
	"math/rand"
	"strings"
	"testing"

	"loop.example/g00466/impl"
)

// plainKey is one of the keys of a secret, by its label.
func plainKey(secret, label string, n int) string {
	info, _ := plainLabelOf(label, "", n)
	key, _ := plainExpanded(secret, info, n)
	return key
}

func plainHighest(n, count int) string {
	var text []byte
	for i := count - 1; i >= 0; i-- {
		text = append(text, byte(n>>(8*i)))
	}
	return string(text)
}

func plainHide(hide string, seq int, sample string) int {
	mask, _ := plainStream(hide, sample[4:16], plainOfLowest(sample[:4]), 2)
	return seq ^ (int(mask[0])*256 + int(mask[1]))
}

// plainSealedReal seals with any first byte and any number up to 65535, as one might who has the secret and keeps to no rule.
func plainSealedReal(secret string, first, seq, cid int, text string) string {
	head := string([]byte{byte(first), byte(cid)})
	iv := plainKey(secret, "iv", 12)
	nonce := iv[:4] + plainXor(iv[4:], plainHighest(seq, 8))
	sealed, _ := plainSeal(plainKey(secret, "key", 32), nonce, head+plainHighest(seq, 2), text)
	hidden := plainHide(plainKey(secret, "sn", 32), seq, sealed)
	return head + plainHighest(hidden, 2) + sealed
}

func plainReal(secret string, epoch, seq, cid int, text string) (string, bool) {
	if len(secret) != 32 || !isWithin(epoch, 0, 8) || !isWithin(seq, 0, 9999) || !isWithin(cid, 0, 255) || len(text) > 5000 {
		return "", false
	}
	return plainSealedReal(secret, 32+epoch%4, seq, cid, text), true
}

func checkReal(t *testing.T, secret string, epoch, seq, cid int, text string) string {
	t.Helper()
	want, wantOk := plainReal(secret, epoch, seq, cid, text)
	got, ok := impl.RealRecord(secret, epoch, seq, cid, text)
	if got != want || ok != wantOk {
		t.Fatalf("RealRecord(%x, %d, %d, %d, %s of %d bytes) = %s, %v; want %s, %v", secret, epoch, seq, cid, brief([]byte(text)), len(text), brief([]byte(got)), ok, brief([]byte(want)), wantOk)
	}
	return got
}

func checkRealHead(t *testing.T, text string, wantEpoch, wantCid int, wantOk bool) {
	t.Helper()
	if epoch, cid, ok := impl.RealHead(text); epoch != wantEpoch || cid != wantCid || ok != wantOk {
		t.Fatalf("RealHead(%s of %d bytes) = %d, %d, %v; want %d, %d, %v", brief([]byte(text)), len(text), epoch, cid, ok, wantEpoch, wantCid, wantOk)
	}
}

func checkRealOpen(t *testing.T, secret, record string, wantSeq int, wantText string, wantOk bool) {
	t.Helper()
	if seq, text, ok := impl.RealOpen(secret, record); seq != wantSeq || text != wantText || ok != wantOk {
		t.Fatalf("RealOpen(%x, %s of %d bytes) = %d, %s, %v; want %d, %s, %v", secret, brief([]byte(record)), len(record), seq, brief([]byte(text)), ok, wantSeq, brief([]byte(wantText)), wantOk)
	}
}

// mustReal makes a record that comes back with its numbers and its text.
func mustReal(t *testing.T, secret string, epoch, seq, cid int, text string) string {
	t.Helper()
	record := checkReal(t, secret, epoch, seq, cid, text)
	if len(record) != 20+len(text) {
		t.Fatalf("a record of %d bytes has %d", len(text), len(record))
	}
	checkRealHead(t, record, epoch%4, cid, true)
	checkRealOpen(t, secret, record, seq, text, true)
	return record
}

func checkNoReal(t *testing.T, secret string, records ...string) {
	t.Helper()
	for _, record := range records {
		checkRealOpen(t, secret, record, 0, "", false)
	}
}

func TestP29KeysOf(t *testing.T) {
	draw := rand.New(rand.NewSource(71))
	for size := range 70 {
		secret := drawText(draw, size)
		var want impl.Keys
		if size == 32 {
			want = impl.Keys{Key: plainKey(secret, "key", 32), Iv: plainKey(secret, "iv", 12), Hide: plainKey(secret, "sn", 32)}
		}
		if got, ok := impl.KeysOf(secret); got != want || ok != (size == 32) {
			t.Fatalf("KeysOf(%x) = %x, %v; want %x", secret, got, ok, want)
		}
	}
	// Of RFC 8448 (a simple handshake): the iv of the server's secret of its handshake.
	keys, ok := impl.KeysOf(unHex(t, "b67b7d690cc16c4e75e54213cb2d37b4e9c912bcded9105d42befd59d391ad38"))
	if !ok || keys.Iv != unHex(t, "5d313eb2671276ee13000b30") || len(keys.Key) != 32 || len(keys.Hide) != 32 || keys.Key == keys.Hide {
		t.Errorf("keys are %x, %v", keys, ok)
	}
}

func TestP29NonceFor(t *testing.T) {
	iv := bytesFrom(0xf4, 12)
	for _, seq := range []int{0, 1, 255, 256, 257, 9998, 9999, 10000, -1, 1 << 16, math.MinInt, math.MaxInt} {
		want := ""
		if isWithin(seq, 0, 9999) {
			want = iv[:10] + plainXor(iv[10:], plainHighest(seq, 2))
		}
		got, ok := impl.NonceFor(iv, seq)
		if got != want || ok != (want != "") || inside(got, iv) {
			t.Errorf("NonceFor(%x, %d) = %x, %v, or the argument itself; want %x", iv, seq, got, ok, want)
		}
		for _, size := range []int{0, 1, 8, 11, 13, 16, 1000} {
			if got, ok := impl.NonceFor(strings.Repeat("i", size), seq); got != "" || ok {
				t.Errorf("NonceFor of %d bytes is %x, %v", size, got, ok)
			}
		}
	}
}

func TestP29HideNumber(t *testing.T) {
	draw := rand.New(rand.NewSource(72))
	for _, seq := range []int{0, 1, 255, 256, 9999, 10000, 65534, 65535} {
		for range 20 {
			hide, sample := drawText(draw, 32), drawText(draw, 16+draw.Intn(40))
			got, ok := impl.HideNumber(hide, seq, sample)
			if want := plainHide(hide, seq, sample); !ok || got != want {
				t.Fatalf("HideNumber(%x, %d, %x) = %d, %v; want %d", hide, seq, sample, got, ok, want)
			}
			if back, ok := impl.HideNumber(hide, got, sample); !ok || back != seq {
				t.Fatalf("%d comes back as %d, %v", seq, back, ok)
			}
			if less, _ := impl.HideNumber(hide, seq, sample[:16]); less != got {
				t.Fatalf("by the first 16 bytes alone it is %d; want %d", less, got)
			}
		}
	}
	// The count is the sample's first four bytes, the lowest first, up to the greatest one; the nonce is what stands behind them.
	hide, sample := drawText(draw, 32), "\xff\xff\xff\xff"+bytesFrom(1, 12)
	stream, _ := impl.ChaStream(hide, bytesFrom(1, 12), most32, 2)
	if got, ok := impl.HideNumber(hide, 0, sample); !ok || got != 256*int(stream[0])+int(stream[1]) {
		t.Errorf("of a sample %x it is %d, %v; want %x", sample, got, ok, stream)
	}
	refused := func(hide string, seq int, sample string) {
		t.Helper()
		if got, ok := impl.HideNumber(hide, seq, sample); got != 0 || ok {
			t.Errorf("HideNumber(%x, %d, %x) = %d, %v", hide, seq, sample, got, ok)
		}
	}
	for _, seq := range []int{-1, 65536, 65537, math.MinInt, math.MaxInt} {
		refused(hide, seq, sample)
	}
	for _, size := range []int{0, 1, 31, 33, 64} {
		refused(strings.Repeat("h", size), 5, sample)
	}
	for size := range 16 {
		refused(hide, 5, sample[:size])
	}
}

// Records of bytes come back with their numbers.
func TestP29ComeBack(t *testing.T) {
	draw := rand.New(rand.NewSource(73))
	secret := drawText(draw, 32)
	for epoch := range 9 {
		for _, seq := range []int{0, 1, 255, 256, 257, 9998, 9999} {
			for _, cid := range []int{0, 1, 254, 255} {
				mustReal(t, secret, epoch, seq, cid, "some text")
			}
		}
	}
	for _, size := range []int{0, 1, 2, 15, 16, 17, 100, 4999, 5000} {
		for _, fill := range []string{strings.Repeat("\x00", size), drawText(draw, size)} {
			mustReal(t, secret, 1, 7, 3, fill)
		}
	}
	for range 200 {
		mustReal(t, drawText(draw, 32), draw.Intn(9), draw.Intn(10000), draw.Intn(256), drawText(draw, draw.Intn(100)))
	}
	// Of epochs four apart the bytes are the same; another number or cid turns what is sealed, too.
	one := mustReal(t, secret, 1, 7, 3, "text")
	if mustReal(t, secret, 5, 7, 3, "text") != one {
		t.Error("of epoch 5 it is another one")
	}
	for _, other := range []string{mustReal(t, secret, 2, 7, 3, "text"), mustReal(t, secret, 1, 8, 3, "text"), mustReal(t, secret, 1, 7, 4, "text")} {
		if other[4:] == one[4:] {
			t.Errorf("%x and %x seal alike", one, other)
		}
	}
}

func TestP29Refused(t *testing.T) {
	draw := rand.New(rand.NewSource(74))
	secret := drawText(draw, 32)
	for _, n := range []int{-1, math.MinInt, math.MaxInt, 1 << 32} {
		checkReal(t, secret, n, 7, 3, "text")
		checkReal(t, secret, 1, n, 3, "text")
		checkReal(t, secret, 1, 7, n, "text")
	}
	for _, epoch := range []int{9, 10, 12} {
		checkReal(t, secret, epoch, 7, 3, "text")
	}
	for _, seq := range []int{10000, 65535, 65536} {
		checkReal(t, secret, 1, seq, 3, "text")
	}
	for _, cid := range []int{256, 257, 512} {
		checkReal(t, secret, 1, 7, cid, "text")
	}
	for _, size := range []int{5001, 5002, 20000} {
		checkReal(t, secret, 1, 7, 3, strings.Repeat("t", size))
	}
	record := mustReal(t, secret, 1, 7, 3, "text")
	for _, size := range []int{0, 1, 31, 33, 64} {
		wrong := strings.Repeat("s", size)
		checkReal(t, wrong, 1, 7, 3, "text")
		checkNoReal(t, wrong, record, "", plainSealedReal(wrong, 33, 7, 3, "text"))
	}
}

func TestP29Heads(t *testing.T) {
	for first := range 256 {
		for _, cid := range []int{0, 7, 255} {
			for _, size := range []int{2, 3, 19, 20, 21, 5020, 30000} {
				text := string([]byte{byte(first), byte(cid)}) + strings.Repeat("x", size-2)
				if size >= 20 && isWithin(first, 32, 35) {
					checkRealHead(t, text, first-32, cid, true)
				} else {
					checkRealHead(t, text, 0, 0, false)
				}
			}
		}
	}
	checkRealHead(t, "", 0, 0, false)
	checkRealHead(t, "\x20", 0, 0, false)
}

// Another secret, one byte turned, cut short, or with more behind it: it does not open.
func TestP29DoNotOpen(t *testing.T) {
	draw := rand.New(rand.NewSource(75))
	for _, size := range []int{0, 1, 30} {
		secret := drawText(draw, 32)
		record := mustReal(t, secret, 2, 300, 9, drawText(draw, size))
		for at := range len(record) {
			for _, by := range []byte{1, 2, 16, 128, 255} {
				checkNoReal(t, secret, withByte(record, at, record[at]^by))
			}
			checkNoReal(t, secret, record[:at], record[at+1:])
			checkNoReal(t, withByte(secret, at%32, secret[at%32]^1), record)
		}
		checkNoReal(t, secret, record+"\x00", "\x00"+record, record+record, record+record[4:], strings.Repeat("\x20", len(record)), strings.Repeat("\x00", len(record)))
		checkNoReal(t, drawText(draw, 32), record)
	}
}

// What who has the secret seals, but not as a record is: other first bytes, numbers above MaxSeq, and texts that are too long.
func TestP29SealedButNone(t *testing.T) {
	draw := rand.New(rand.NewSource(76))
	secret := drawText(draw, 32)
	for first := 32; first <= 35; first++ {
		checkRealOpen(t, secret, plainSealedReal(secret, first, 9999, 5, "text"), 9999, "text", true)
	}
	for _, first := range []int{0, 3, 31, 36, 37, 64, 160, 255} {
		checkNoReal(t, secret, plainSealedReal(secret, first, 7, 5, "text"))
	}
	for _, seq := range []int{10000, 10001, 16384, 65534, 65535} {
		checkNoReal(t, secret, plainSealedReal(secret, 33, seq, 5, "text"))
	}
	long := strings.Repeat("t", 5001)
	stream, _ := plainStream(plainKey(secret, "key", 32), plainKey(secret, "iv", 12), 1, 5001)
	once, _ := plainStream(plainKey(secret, "key", 32), plainKey(secret, "iv", 12), 0, 32)
	sealed := plainXor(long, stream)
	tag, _ := plainPoly(once, plainTagInput("\x21\x05\x00\x00", sealed))
	hidden := plainHide(plainKey(secret, "sn", 32), 0, sealed)
	checkNoReal(t, secret, "\x21\x05"+plainHighest(hidden, 2)+sealed+tag)
}

func TestP29AnswersAreNewMemory(t *testing.T) {
	secret := bytesFrom(5, 32)
	text := strings.Repeat("\x00", 40)
	record, _ := impl.RealRecord(secret, 1, 0, 3, text)
	_, back, ok := impl.RealOpen(secret, record)
	if !ok || back != text || inside(back, record) || inside(record, text) {
		t.Errorf("%x comes back as %x", record, back)
	}
}
