package tests

import (
	"crypto/hkdf"
	"crypto/sha256"
	"math"
	"math/rand"
	"strings"
	"sync"
	"testing"

	"loop.example/g00466/impl"
)

func plainExpanded(key, info string, n int) (string, bool) {
	if n < 0 || n > 8160 {
		return "", false
	}
	all, ahead := "", ""
	for i := 1; len(all) < n; i++ {
		ahead = stdHmac(key, ahead+info+string([]byte{byte(i)}))
		all += ahead
	}
	return all[:n], true
}

func plainLabelOf(label, said string, n int) (string, bool) {
	if n < 0 || n > 65535 || len(label) > 249 || len(said) > 255 {
		return "", false
	}
	info := []byte{byte(n / 256), byte(n % 256), byte(6 + len(label))}
	info = append(info, "tls13 "+label...)
	info = append(info, byte(len(said)))
	return string(info) + said, true
}

func checkExpanded(t *testing.T, key, info string, n int, want string, wantOk bool) {
	t.Helper()
	if got, ok := impl.Expanded(key, info, n); got != want || ok != wantOk {
		t.Fatalf("Expanded(%q, %q, %d) = %x of %d bytes, %v; want %x of %d bytes, %v", key, info, n, brief(got), len(got), ok, brief(want), len(want), wantOk)
	}
}

func checkLabelOf(t *testing.T, label, said string, n int) {
	t.Helper()
	want, wantOk := plainLabelOf(label, said, n)
	if got, ok := impl.LabelOf(label, said, n); got != want || ok != wantOk {
		t.Fatalf("LabelOf(%q, %q, %d) = %x, %v; want %x, %v", label, said, n, got, ok, want, wantOk)
	}
}

func checkExpandedLabel(t *testing.T, key, label, said string, n int) {
	t.Helper()
	want := ""
	info, wantOk := plainLabelOf(label, said, n)
	if wantOk {
		want, wantOk = plainExpanded(key, info, n)
	}
	if got, ok := impl.ExpandedLabel(key, label, said, n); got != want || ok != wantOk {
		t.Fatalf("ExpandedLabel(%q, %q, %q, %d) = %x of %d bytes, %v; want %x of %d bytes, %v", key, label, said, n, brief(got), len(got), ok, brief(want), len(want), wantOk)
	}
}

// bytesFrom has bytes one behind the other, each one more.
func bytesFrom(first, size int) string {
	var text []byte
	for i := range size {
		text = append(text, byte(first+i))
	}
	return string(text)
}

// The keys that RFC 5869 tells of SHA-256.
func TestP23KeysOfTheStandard(t *testing.T) {
	for _, c := range []struct{ text, salt, info, key, want string }{
		{strings.Repeat("\x0b", 22), bytesFrom(0, 13), bytesFrom(0xf0, 10), "077709362c2e32df0ddc3f0dc47bba6390b6c73bb50f9c3122ec844ad7c2b3e5",
			"3cb25f25faacd57a90434f64d0362f2a2d2d0a90cf1a5a4c5db02d56ecc4c5bf34007208d5b887185865"},
		{bytesFrom(0, 80), bytesFrom(0x60, 80), bytesFrom(0xb0, 80), "06a6b88c5853361a06104c9ceb35b45cef760014904671014a193f40c15fc244",
			"b11e398dc80327a1c8e7f78c596a49344f012eda2d4efad8a050cc4c19afa97c59045a99cac7827271cb41c65e590e09da3275600c2f09b8367793a9aca3db71cc30c58179ec3e87c14c01d5c1f3434f1d87"},
		{strings.Repeat("\x0b", 22), "", "", "19ef24a32c717b167f33a91d6f648bdf96596776afdb6377ac434c1c293ccb04",
			"8da4e775a563c18f715f802a063c5a31b8a11f5c5ee1879ec3454e5f3c738d2d9d201395faa4b61a96c8"},
	} {
		if got := impl.Extracted(c.salt, c.text); got != unHex(t, c.key) {
			t.Errorf("Extracted(%x, %x) = %x; want %s", c.salt, c.text, got, c.key)
		}
		want := unHex(t, c.want)
		checkExpanded(t, unHex(t, c.key), c.info, len(want), want, true)
	}
}

func TestP23Extracted(t *testing.T) {
	draw := rand.New(rand.NewSource(49))
	for _, size := range []int{0, 1, 32, 63, 64, 65, 300} {
		for _, other := range []int{0, 1, 64, 500} {
			salt, text := drawText(draw, size), drawText(draw, other)
			if got := impl.Extracted(salt, text); got != stdHmac(salt, text) || got != impl.Hmac(salt, text) {
				t.Errorf("Extracted of %d and %d bytes is %x", size, other, got)
			}
		}
	}
}

// Any length up to the greatest one; a shorter one begins a longer one.
func TestP23EachLength(t *testing.T) {
	draw := rand.New(rand.NewSource(50))
	for _, c := range [][2]string{{"", ""}, {"key", "info"}, {drawText(draw, 32), drawText(draw, 100)}, {drawText(draw, 65), ""}, {drawText(draw, 1000), drawText(draw, 1000)}} {
		key, info := c[0], c[1]
		longest, ok := impl.Expanded(key, info, 8160)
		if !ok || len(longest) != 8160 {
			t.Fatalf("of 8160 bytes are told %d, %v", len(longest), ok)
		}
		std, err := hkdf.Expand(sha256.New, []byte(key), info, 8160)
		if err != nil || string(std) != longest {
			t.Fatalf("the library tells others: %v", err)
		}
		for _, n := range []int{0, 1, 2, 31, 32, 33, 63, 64, 65, 95, 96, 97, 1000, 4096, 8127, 8128, 8129, 8158, 8159, 8160} {
			want, _ := plainExpanded(key, info, n)
			checkExpanded(t, key, info, n, want, true)
			if longest[:n] != want {
				t.Fatalf("%d bytes don't begin the longest one", n)
			}
		}
		for _, n := range []int{-1, -32, 8161, 8192, 65535, 65536, math.MinInt, math.MaxInt, 1 << 32, 1<<32 + 32} {
			checkExpanded(t, key, info, n, "", false)
		}
	}
	for n := range 200 {
		want, _ := plainExpanded("k", "i", n)
		checkExpanded(t, "k", "i", n, want, true)
	}
}

func TestP23Labels(t *testing.T) {
	if got, ok := impl.LabelOf("derived", stdDigest(""), 32); !ok || got != "\x00\x20\x0dtls13 derived\x20"+stdDigest("") {
		t.Errorf("a label is %x, %v", got, ok)
	}
	labels := []string{"", "k", "key", strings.Repeat("l", 248), strings.Repeat("l", 249), strings.Repeat("l", 250), strings.Repeat("l", 256), strings.Repeat("\xff", 1000)}
	texts := []string{"", "s", strings.Repeat("s", 254), strings.Repeat("s", 255), strings.Repeat("s", 256), strings.Repeat("\x00", 511)}
	for _, label := range labels {
		for _, said := range texts {
			for _, n := range []int{0, 1, 255, 256, 8160, 8161, 65534, 65535, 65536, -1, math.MinInt, math.MaxInt, 1 << 32} {
				checkLabelOf(t, label, said, n)
			}
			for _, n := range []int{0, 1, 16, 32, 33, 8159, 8160, 8161, 65535, 65536, -1} {
				checkExpandedLabel(t, "key", label, said, n)
			}
		}
	}
}

// Of RFC 8448 (a simple handshake): what is derived of the early secret, and of the one behind it.
func TestP23SecretsOfTls(t *testing.T) {
	early := unHex(t, "33ad0a1c607ec03b09e6cd9893680ce210adf300aa1f2660e1b22e10f170f92a")
	if got := impl.Extracted("", strings.Repeat("\x00", 32)); got != early {
		t.Fatalf("the early secret is %x", got)
	}
	if got, ok := impl.DerivedSecret(early, "derived", ""); !ok || got != unHex(t, "6f2615a108c702c5678f54fc9dbab69716c076189c48250cebeac3576c3611ba") {
		t.Errorf("derived is %x, %v", got, ok)
	}
	draw := rand.New(rand.NewSource(51))
	for _, label := range []string{"", "c ap traffic", "s hs traffic", strings.Repeat("l", 249)} {
		for _, size := range []int{0, 1, 64, 1000} {
			key, text := drawText(draw, 32), drawText(draw, size)
			info, _ := plainLabelOf(label, stdDigest(text), 32)
			want, _ := plainExpanded(key, info, 32)
			if got, ok := impl.DerivedSecret(key, label, text); !ok || got != want {
				t.Errorf("DerivedSecret(.., %q, %d bytes) = %x, %v; want %x", label, size, got, ok, want)
			}
		}
	}
	for _, label := range []string{strings.Repeat("l", 250), strings.Repeat("l", 5000)} {
		if got, ok := impl.DerivedSecret("key", label, "text"); ok || got != "" {
			t.Errorf("DerivedSecret with a label of %d bytes is %x, %v", len(label), got, ok)
		}
	}
}

// Many at once: each tells what it tells alone.
func TestP23ManyAtOnce(t *testing.T) {
	var all sync.WaitGroup
	for n := range 40 {
		all.Go(func() {
			for range 20 {
				want, _ := plainExpanded("key", "info", 7*n)
				if got, ok := impl.Expanded("key", "info", 7*n); !ok || got != want {
					t.Errorf("Expanded of %d bytes is %x, %v", 7*n, got, ok)
				}
			}
		})
	}
	all.Wait()
}
