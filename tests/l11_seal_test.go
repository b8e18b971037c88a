package tests

import (
	"encoding/hex"
	"fmt"
	"math"
	"math/rand"
	"strings"
	"testing"

	"loop.example/g00020/impl"
)

// plainStream is the document's sentence, for any key, nonce and size.
func plainStream(key string, nonce int64, size int) string {
	x := bigSum(key+impl.PutNum(nonce), 7)
	out := make([]byte, size)
	for i := range out {
		x = x * 48271 % 2147483647
		out[i] = byte(x / 256 % 256)
	}
	return string(out)
}

// plainVeil is a text xor as much of a stream as it needs.
func plainVeil(text, key string, nonce int64) string {
	out := []byte(plainStream(key, nonce, len(text)))
	for i := range out {
		out[i] ^= text[i]
	}
	return string(out)
}

// plainSum is a sum in four bytes.
func plainSum(text string, seed int64) string {
	sum := bigSum(text, seed)
	return string([]byte{byte(sum / 16777216), byte(sum / 65536), byte(sum / 256), byte(sum)})
}

func plainWrap(master, dataKey string, nonce int64) string {
	text := impl.PutNum(int64(len(dataKey))) + dataKey
	return plainVeil(text+plainSum(text, 8), master, nonce)
}

func plainSealData(dataKey, data string, nonce int64) string {
	return plainVeil(data+plainSum(dataKey+data, 6), dataKey, nonce)
}

func plainKeyFits(key string) bool {
	return len(key) >= 1 && len(key) <= 200
}

func plainSeal(master, dataKey string, nonce int64, data string) impl.Sealed {
	if !plainKeyFits(master) || !plainKeyFits(dataKey) || nonce < 0 {
		return impl.Sealed{Code: 1}
	}
	if len(data) > 100000 {
		return impl.Sealed{Code: 2}
	}
	return impl.Sealed{Wrapped: plainWrap(master, dataKey, nonce), Data: plainSealData(dataKey, data, nonce)}
}

// plainUnwrap tries each length that a data key may have.
func plainUnwrap(master string, s impl.Sealed, nonce int64) (string, int64) {
	if !plainKeyFits(master) || nonce < 0 || s.Code != 0 || len(s.Wrapped) > 300 || len(s.Data) > 100004 {
		return "", 1
	}
	text := plainVeil(s.Wrapped, master, nonce)
	for size := 1; size <= 200; size++ {
		head := impl.PutNum(int64(size))
		if len(text) != len(head)+size+4 {
			continue
		}
		key := text[len(head) : len(head)+size]
		if text == head+key+plainSum(head+key, 8) {
			return key, 0
		}
	}
	return "", 12
}

func plainOpen(master string, s impl.Sealed, nonce int64) impl.BytesResult {
	key, code := plainUnwrap(master, s, nonce)
	if code != 0 {
		return impl.BytesResult{Code: code}
	}
	text := plainVeil(s.Data, key, nonce)
	if len(text) < 4 || text[len(text)-4:] != plainSum(key+text[:len(text)-4], 6) {
		return impl.BytesResult{Code: 12}
	}
	return impl.BytesResult{Data: text[:len(text)-4]}
}

func plainRewrap(old, now string, s impl.Sealed, nonce int64) impl.Sealed {
	if !plainKeyFits(now) {
		return impl.Sealed{Code: 1}
	}
	key, code := plainUnwrap(old, s, nonce)
	if code != 0 {
		return impl.Sealed{Code: code}
	}
	return impl.Sealed{Wrapped: plainWrap(now, key, nonce), Data: s.Data}
}

// sealKeys are keys at the edges and between, no two of which have one stream under a nonce.
func sealKeys() []string {
	return []string{"m", "\x00", "\xff", "dk", "a master", mixedBytes(127), mixedBytes(128), times("k", impl.MaxKey-1), times("k", impl.MaxKey), allBytes()[56:]}
}

// sealNonces are those at the edges and between, no two of which have one stream under a key.
func sealNonces() []int64 {
	return []int64{0, 1, 5, 127, 128, 300, 1 << 31, impl.SumPrime, math.MaxInt64 - 1, math.MaxInt64}
}

// wrongKeys are of no length that a key may have.
func wrongKeys() []string {
	return []string{"", times("k", impl.MaxKey+1), times("k", 300), times("k", impl.MaxBytes), times("k", impl.MaxBytes+1)}
}

// turnedAt is a text with one byte xor turn.
func turnedAt(text string, at int, turn byte) string {
	return text[:at] + string([]byte{text[at] ^ turn}) + text[at+1:]
}

func isSealCode(got impl.Sealed, code int64) bool {
	return got == impl.Sealed{Code: code}
}

func unhex(t *testing.T, digits string) string {
	t.Helper()
	data, err := hex.DecodeString(digits)
	if err != nil {
		t.Fatal(err)
	}
	return string(data)
}

func TestP13StreamsAsKnown(t *testing.T) {
	for _, known := range []struct {
		key    string
		nonce  int64
		stream string
	}{
		{"k", 3, "6913a28389701aa8"}, {"k", 0, "330b448f9e2d"}, {"\x00", 1, "8017d44bdd75"}, {"master", 300, "e6120c2846043b3044e031e0"},
		{times("k", 200), math.MaxInt64, "08863c217266"}, {"m", 133, "fce7272bb9e4"}, {"ctbiwkccdrvlpwnpdz", 0, "0000000000000000"},
	} {
		want := unhex(t, known.stream)
		if got := impl.StreamOf(known.key, known.nonce, int64(len(want))); got != want {
			t.Errorf("%.20q, %d: %x, not %s", known.key, known.nonce, got, known.stream)
		}
	}
}

func TestP13StreamsByTheWords(t *testing.T) {
	for _, key := range sealKeys() {
		for _, nonce := range sealNonces() {
			whole := plainStream(key, nonce, 600)
			for _, size := range []int{0, 1, 2, 3, 255, 256, 599, 600} {
				if got := impl.StreamOf(key, nonce, int64(size)); got != whole[:size] {
					t.Errorf("%.20q, %d: %d bytes, of them %.20x", key, nonce, size, got)
				}
			}
		}
	}
	for _, size := range []int{impl.MaxBytes, impl.MaxBytes + 1, 2*impl.MaxBytes - 1, 2 * impl.MaxBytes} {
		if got := impl.StreamOf("m", 5, int64(size)); got != plainStream("m", 5, size) {
			t.Errorf("%d bytes asked for, %d told", size, len(got))
		}
	}
}

func TestP13NoSuchStreams(t *testing.T) {
	for _, key := range wrongKeys() {
		if got := impl.StreamOf(key, 5, 8); got != "" {
			t.Errorf("a key of %d bytes: %x", len(key), got)
		}
	}
	for _, nonce := range []int64{-1, -128, math.MinInt64} {
		if got := impl.StreamOf("m", nonce, 8); got != "" {
			t.Errorf("nonce %d: %x", nonce, got)
		}
	}
	for _, size := range []int64{-1, math.MinInt64, 2*impl.MaxBytes + 1, 1 << 40, math.MaxInt64} {
		if got := impl.StreamOf("m", 5, size); got != "" {
			t.Errorf("size %d: %d bytes", size, len(got))
		}
	}
}

// A key and its nonce are not parted in the sum that begins a stream, and three bytes can be changed so that it stays.
func TestP13WhatHasOneSumHasOneStream(t *testing.T) {
	for _, c := range []struct {
		key    string
		nonce  int64
		key2   string
		nonce2 int64
	}{{"m", 133, "m\x85", 1}, {"aaa", 5, "b[h", 5}, {"m", 1 + 7<<7 + 1<<14, "m", 2 + 1<<7 + 8<<14}} {
		one, two := impl.StreamOf(c.key, c.nonce, 99), impl.StreamOf(c.key2, c.nonce2, 99)
		if one != two || one != plainStream(c.key, c.nonce, 99) {
			t.Errorf("%x: %x and %x", c, one, two)
		}
	}
	s := impl.SealObject("aaa", "dk", 5, "data")
	if got := impl.OpenSealed("b[h", s, 5); !isBytes(got, impl.OK, "data") {
		t.Errorf("a master of the same stream: %x", got)
	}
	if got := impl.Rewrap("b[h", "n", s, 5); got != plainRewrap("aaa", "n", s, 5) {
		t.Errorf("a master of the same stream: %x", got)
	}
}

func TestP13SealedAsKnown(t *testing.T) {
	for _, known := range []struct {
		master  string
		dataKey string
		nonce   int64
		data    string
		wrapped string
		sealed  string
	}{
		{"m", "dk", 5, "hello", "4f99bbd93cd9a5", "e7d384a9624c9129bc"},
		{"m", "dk", 5, "", "4f99bbd93cd9a5", "8f39e92d"},
		{"master", "data key", 300, "an object", "ee766d5c272450553db96dcb3c", "44e1484033b137ddf7e8cc3435"},
		{"\x00", "\xff", 0, "\x00", "c240b4c1e5dd", "3c0ca9d8ea"},
	} {
		want := impl.Sealed{Wrapped: unhex(t, known.wrapped), Data: unhex(t, known.sealed)}
		if got := impl.SealObject(known.master, known.dataKey, known.nonce, known.data); got != want {
			t.Errorf("%q: %x, not %x", known.data, got, want)
		}
		if got := impl.OpenSealed(known.master, want, known.nonce); !isBytes(got, impl.OK, known.data) {
			t.Errorf("%q is opened as %x", known.data, got)
		}
	}
}

func TestP13WhatIsSealedIsOpened(t *testing.T) {
	data := allBytes() + "and again " + allBytes()
	for _, master := range sealKeys() {
		for _, dataKey := range sealKeys() {
			for _, nonce := range sealNonces() {
				s := impl.SealObject(master, dataKey, nonce, data)
				if s != plainSeal(master, dataKey, nonce, data) {
					t.Errorf("%.20q, %.20q, %d: sealed in another way", master, dataKey, nonce)
				}
				if got := impl.OpenSealed(master, s, nonce); !isBytes(got, impl.OK, data) {
					t.Errorf("%.20q, %.20q, %d: %d, %d bytes", master, dataKey, nonce, got.Code, len(got.Data))
				}
			}
		}
	}
}

func TestP13DataOfEveryLength(t *testing.T) {
	for size := range 600 {
		data := mixedBytes(size)
		s := impl.SealObject("m", "dk", 5, data)
		if len(s.Data) != size+4 || s != plainSeal("m", "dk", 5, data) || !isBytes(impl.OpenSealed("m", s, 5), impl.OK, data) {
			t.Errorf("%d bytes", size)
		}
	}
	for size := impl.MaxBytes - 4; size <= impl.MaxBytes; size++ {
		for _, dataKey := range []string{"k", times("k", impl.MaxKey)} {
			data := mixedBytes(size)
			s := impl.SealObject("m", dataKey, 5, data)
			if s != plainSeal("m", dataKey, 5, data) || !isBytes(impl.OpenSealed("m", s, 5), impl.OK, data) {
				t.Errorf("%d bytes under a key of %d", size, len(dataKey))
			}
		}
	}
}

// Under these keys all of the stream is 0: what is sealed can be read, but no byte of it be turned.
func TestP13StreamsOfNothing(t *testing.T) {
	for _, c := range []struct {
		key   string
		nonce int64
	}{{"ctbiwkccdrvlpwnpdz", 0}, {"qfcijscesupheygsto", 0}, {"uyychjvbonedmclsbn", 5}, {"gqplodlfqtjuliehtt", 5}} {
		s := impl.SealObject(c.key, c.key, c.nonce, "data")
		if s != plainSeal(c.key, c.key, c.nonce, "data") || s.Data[:4] != "data" || s.Wrapped[1:19] != c.key {
			t.Errorf("%q: %q, %q", c.key, s.Wrapped, s.Data)
		}
		if !isBytes(impl.OpenSealed(c.key, s, c.nonce), impl.OK, "data") || impl.OpenSealed(c.key, impl.Sealed{Wrapped: s.Wrapped, Data: turnedAt(s.Data, 2, 1)}, c.nonce).Code != impl.ErrSum {
			t.Errorf("%q is not opened as the words say", c.key)
		}
	}
}

func TestP13OneByteOfDataTurned(t *testing.T) {
	for _, c := range []struct {
		dataKey string
		nonce   int64
		data    string
	}{
		{"dk", 5, allBytes()}, {times("k", impl.MaxKey), math.MaxInt64, mixedBytes(100)}, {"\x00", 0, ""}, {"k", 0, "\x00"}, {"k", 1, times("\xff", 50)},
	} {
		s := impl.SealObject("m", c.dataKey, c.nonce, c.data)
		for at := range len(s.Data) {
			for turn := 1; turn < 256; turn++ {
				bent := impl.Sealed{Wrapped: s.Wrapped, Data: turnedAt(s.Data, at, byte(turn))}
				if got := impl.OpenSealed("m", bent, c.nonce); !isBytes(got, impl.ErrSum, "") {
					t.Fatalf("%.20q, byte %d xor %d: %x", c.data, at, turn, got)
				}
			}
		}
	}
}

func TestP13OneByteOfTheLongestDataTurned(t *testing.T) {
	s := impl.SealObject("m", "dk", 5, mixedBytes(impl.MaxBytes))
	size := len(s.Data)
	for _, at := range []int{0, 1, 2, 127, 128, 65535, 65536, size / 2, size - 6, size - 5, size - 4, size - 3, size - 2, size - 1} {
		for _, turn := range []byte{1, 2, 128, 255} {
			bent := impl.Sealed{Wrapped: s.Wrapped, Data: turnedAt(s.Data, at, turn)}
			if got := impl.OpenSealed("m", bent, 5); !isBytes(got, impl.ErrSum, "") {
				t.Errorf("byte %d xor %d: code %d, %d bytes", at, turn, got.Code, len(got.Data))
			}
		}
	}
}

func TestP13OneByteOfWrappedTurned(t *testing.T) {
	for _, dataKey := range []string{"k", "dk", "\x00\x01\x02", mixedBytes(127), mixedBytes(128), times("k", impl.MaxKey)} {
		s := impl.SealObject("m", dataKey, 5, "some data")
		for at := range len(s.Wrapped) {
			for turn := 1; turn < 256; turn++ {
				bent := impl.Sealed{Wrapped: turnedAt(s.Wrapped, at, byte(turn)), Data: s.Data}
				if got := impl.OpenSealed("m", bent, 5); !isBytes(got, impl.ErrSum, "") {
					t.Fatalf("%.20q, byte %d xor %d: %x", dataKey, at, turn, got)
				}
				if got := impl.Rewrap("m", "n", bent, 5); !isSealCode(got, impl.ErrSum) {
					t.Fatalf("%.20q, byte %d xor %d, rewrapped: %x", dataKey, at, turn, got)
				}
			}
		}
	}
}

// cuts are a text without some of its bytes at either end, and with some more.
func cuts(text string) map[string]string {
	list := map[string]string{"a byte ahead": "\x00" + text, "a byte behind": text + "\x00", "four bytes behind": text + "\x00\x00\x00\x00", "twice": text + text}
	for size := range len(text) {
		list[fmt.Sprint("the first ", size)] = text[:size]
		list[fmt.Sprint("the last ", size)] = text[len(text)-size:]
	}
	return list
}

func TestP13CutOffOrLonger(t *testing.T) {
	for _, dataKey := range []string{"k", "dk", mixedBytes(128), times("k", impl.MaxKey)[:100]} {
		s := impl.SealObject("m", dataKey, 5, "some data that are sealed")
		for name, wrapped := range cuts(s.Wrapped) {
			bent := impl.Sealed{Wrapped: wrapped, Data: s.Data}
			if got := impl.OpenSealed("m", bent, 5); !isBytes(got, impl.ErrSum, "") {
				t.Errorf("%.20q, Wrapped, %s: %x", dataKey, name, got)
			}
			if got := impl.Rewrap("m", "n", bent, 5); !isSealCode(got, impl.ErrSum) {
				t.Errorf("%.20q, Wrapped, %s, rewrapped: %x", dataKey, name, got)
			}
		}
		for name, data := range cuts(s.Data) {
			bent := impl.Sealed{Wrapped: s.Wrapped, Data: data}
			if got := impl.OpenSealed("m", bent, 5); !isBytes(got, impl.ErrSum, "") {
				t.Errorf("%.20q, Data, %s: %x", dataKey, name, got)
			}
		}
	}
	if got := impl.OpenSealed("m", impl.Sealed{}, 5); !isBytes(got, impl.ErrSum, "") {
		t.Errorf("nothing at all: %x", got)
	}
}

// handMade is what no SealObject gives: what stands in Wrapped is text and a sum, in Data all that is right under key.
func handMade(text, sum, key string) impl.Sealed {
	return impl.Sealed{Wrapped: plainVeil(text+sum, "m", 5), Data: plainSealData(key, "data", 5)}
}

func TestP13WrappedThatIsNotSoMade(t *testing.T) {
	if got := impl.OpenSealed("m", handMade("\x03key", plainSum("\x03key", 8), "key"), 5); !isBytes(got, impl.OK, "data") {
		t.Fatalf("what is made right by hand: %x", got)
	}
	long := times("k", impl.MaxKey+1)
	wide := mixedBytes(128)
	right := func(text, key string) impl.Sealed { return handMade(text, plainSum(text, 8), key) }
	for name, s := range map[string]impl.Sealed{
		"a longer writing of 3":            right("\x83\x00key", "key"),
		"a still longer one":               right("\x83\x80\x00key", "key"),
		"a longer writing of 128":          right("\x80\x81\x00"+wide, wide),
		"a longer one, the sum of a right": handMade("\x83\x00key", plainSum("\x03key", 8), "key"),
		"an empty key":                     right("\x00", ""),
		"an empty key in a longer writing": right("\x80\x00", ""),
		"a key of MaxKey + 1 bytes":        right(impl.PutText(long), long),
		"a key of 294 bytes":               right(impl.PutText(times("k", 294)), times("k", 294)),
		"no text":                          right("", ""),
		"a text that ends early":           right("\x04key", "key"),
		"a text with a byte behind":        right("\x03key!", "key"),
		"a byte between text and sum":      handMade("\x03key!", plainSum("\x03key", 8), "key"),
		"a number without an end":          right("\x83", "key"),
		"a number above all":               right("\xff\xff\xff\xff\xff\xff\xff\xff\xff\x01key", "key"),
		"the sum of the key alone":         handMade("\x03key", plainSum("key", 8), "key"),
		"the sum with another seed":        handMade("\x03key", plainSum("\x03key", 6), "key"),
		"the sum ahead of the text":        handMade(plainSum("\x03key", 8), "\x03key", "key"),
		"the sum above SumPrime":           handMade("\x03key", aboveSum("\x03key"), "key"),
	} {
		if len(s.Wrapped) > 300 {
			t.Fatalf("%s: %d bytes", name, len(s.Wrapped))
		}
		if got := impl.OpenSealed("m", s, 5); !isBytes(got, impl.ErrSum, "") {
			t.Errorf("%s: %x", name, got)
		}
		if got := impl.Rewrap("m", "n", s, 5); !isSealCode(got, impl.ErrSum) {
			t.Errorf("%s, rewrapped: %x", name, got)
		}
	}
}

// aboveSum is another number in four bytes that leaves what the sum is modulo SumPrime.
func aboveSum(text string) string {
	sum := bigSum(text, 8) + 2147483647
	return string([]byte{byte(sum / 16777216), byte(sum / 65536), byte(sum / 256), byte(sum)})
}

func TestP13DataThatAreNotSoMade(t *testing.T) {
	veiled := func(text string) impl.Sealed {
		return impl.Sealed{Wrapped: plainWrap("m", "dk", 5), Data: plainVeil(text, "dk", 5)}
	}
	if got := impl.OpenSealed("m", veiled("data"+plainSum("dkdata", 6)), 5); !isBytes(got, impl.OK, "data") {
		t.Fatalf("what is made right by hand: %x", got)
	}
	for name, text := range map[string]string{
		"no sum":                        "data",
		"the sum of the data alone":     "data" + plainSum("data", 6),
		"the sum of another key":        "data" + plainSum("dldata", 6),
		"the sum with another seed":     "data" + plainSum("dkdata", 8),
		"the sum ahead of the data":     plainSum("dkdata", 6) + "data",
		"the sum of the key in PutText": "data" + plainSum("\x02dkdata", 6),
		"a sum of nothing":              plainSum("", 6),
		"the sum of data with one less": "data!" + plainSum("dkdata", 6),
	} {
		if got := impl.OpenSealed("m", veiled(text), 5); !isBytes(got, impl.ErrSum, "") {
			t.Errorf("%s: %x", name, got)
		}
	}
	other := impl.SealObject("m", "other", 5, "data")
	mixed := impl.Sealed{Wrapped: plainWrap("m", "dk", 5), Data: other.Data}
	if got := impl.OpenSealed("m", mixed, 5); !isBytes(got, impl.ErrSum, "") {
		t.Errorf("Data of another key: %x", got)
	}
}

func TestP13AnotherMasterOrNonceDoesNotOpen(t *testing.T) {
	for _, master := range sealKeys() {
		for _, nonce := range sealNonces() {
			s := impl.SealObject(master, "dk", nonce, "some data")
			for _, other := range sealKeys() {
				if got := impl.OpenSealed(other, s, nonce); other != master && !isBytes(got, impl.ErrSum, "") {
					t.Errorf("%.20q sealed, %.20q opens: %x", master, other, got)
				}
			}
			for _, other := range sealNonces() {
				if got := impl.OpenSealed(master, s, other); other != nonce && !isBytes(got, impl.ErrSum, "") {
					t.Errorf("%d sealed, %d opens: %x", nonce, other, got)
				}
			}
			if got := impl.OpenSealed("dk", s, nonce); master != "dk" && !isBytes(got, impl.ErrSum, "") {
				t.Errorf("the data key opens: %x", got)
			}
		}
	}
	master := "The master's key"
	s := impl.SealObject(master, "dk", 5, "some data")
	for at := range len(master) {
		for turn := 1; turn < 256; turn++ {
			if got := impl.OpenSealed(turnedAt(master, at, byte(turn)), s, 5); !isBytes(got, impl.ErrSum, "") {
				t.Errorf("byte %d xor %d of the master: %x", at, turn, got)
			}
		}
	}
}

func TestP13RewrapChangesWhoCanOpen(t *testing.T) {
	for _, data := range []string{"", "some data", allBytes(), mixedBytes(impl.MaxBytes)} {
		for i, old := range sealKeys() {
			now := sealKeys()[(i+1)%len(sealKeys())]
			nonce := sealNonces()[i]
			s := impl.SealObject(old, "the data key", nonce, data)
			got := impl.Rewrap(old, now, s, nonce)
			if got != plainRewrap(old, now, s, nonce) || got != impl.SealObject(now, "the data key", nonce, data) || got.Data != s.Data {
				t.Errorf("%d bytes, %.20q to %.20q: code %d", len(data), old, now, got.Code)
			}
			if opened := impl.OpenSealed(now, got, nonce); !isBytes(opened, impl.OK, data) {
				t.Errorf("%d bytes, the new master: code %d", len(data), opened.Code)
			}
			if opened := impl.OpenSealed(old, got, nonce); !isBytes(opened, impl.ErrSum, "") {
				t.Errorf("%d bytes, the old master: code %d", len(data), opened.Code)
			}
			if opened := impl.OpenSealed(old, s, nonce); !isBytes(opened, impl.OK, data) {
				t.Errorf("%d bytes, as it was sealed: code %d", len(data), opened.Code)
			}
			if again := impl.Rewrap(old, now, got, nonce); !isSealCode(again, impl.ErrSum) {
				t.Errorf("%d bytes, rewrapped by the old master again: code %d", len(data), again.Code)
			}
		}
	}
}

func TestP13RewrappedSeveralTimes(t *testing.T) {
	data := allBytes()
	for _, nonce := range sealNonces() {
		for _, dataKey := range sealKeys() {
			first := impl.SealObject("the first", dataKey, nonce, data)
			s, master := first, "the first"
			for _, now := range sealKeys() {
				next := impl.Rewrap(master, now, s, nonce)
				if next.Code != impl.OK || next.Data != first.Data || !isBytes(impl.OpenSealed(now, next, nonce), impl.OK, data) || impl.OpenSealed(master, next, nonce).Code != impl.ErrSum {
					t.Fatalf("%.20q to %.20q: code %d", master, now, next.Code)
				}
				s, master = next, now
			}
			if same := impl.Rewrap(master, master, s, nonce); same != s {
				t.Errorf("to the same master: code %d", same.Code)
			}
			if back := impl.Rewrap(master, "the first", s, nonce); back != first {
				t.Errorf("back to the first: code %d", back.Code)
			}
		}
	}
}

// Who rewraps need not read: what Data hold plays no part, and stays.
func TestP13RewrapDoesNotLookAtWhatDataHold(t *testing.T) {
	s := impl.SealObject("m", "dk", 5, "some data")
	for name, data := range map[string]string{
		"nothing": "", "a byte": "x", "three bytes": "xyz", "four bytes": "junk", "another text": "something else that nobody sealed",
		"a byte turned": turnedAt(s.Data, 3, 1), "cut off": s.Data[:5], "a byte more": s.Data + "x", "of another key": impl.SealObject("m", "other", 5, "data").Data,
		"MaxBytes": mixedBytes(impl.MaxBytes), "MaxBytes + 4": mixedBytes(impl.MaxBytes + 4),
	} {
		bent := impl.Sealed{Wrapped: s.Wrapped, Data: data}
		got := impl.Rewrap("m", "n", bent, 5)
		if got != plainRewrap("m", "n", bent, 5) || got.Code != impl.OK || got.Data != data || got.Wrapped != plainWrap("n", "dk", 5) {
			t.Errorf("%s: code %d", name, got.Code)
		}
		if opened := impl.OpenSealed("n", got, 5); !isBytes(opened, impl.ErrSum, "") {
			t.Errorf("%s, opened: code %d", name, opened.Code)
		}
	}
	for _, size := range []int{impl.MaxBytes + 5, impl.MaxBytes + 6, 2 * impl.MaxBytes} {
		bent := impl.Sealed{Wrapped: s.Wrapped, Data: mixedBytes(size)}
		if got := impl.Rewrap("m", "n", bent, 5); !isSealCode(got, impl.ErrForm) {
			t.Errorf("%d bytes: code %d", size, got.Code)
		}
	}
}

func TestP13HowManyBytesAreTaken(t *testing.T) {
	right := impl.SealObject("m", "dk", 5, "data")
	for _, c := range []struct {
		name    string
		wrapped string
		data    string
		code    int64
	}{
		{"Wrapped of 207 bytes", mixedBytes(207), right.Data, impl.ErrSum},
		{"Wrapped of 300 bytes", mixedBytes(300), right.Data, impl.ErrSum},
		{"Wrapped of 301 bytes", mixedBytes(301), right.Data, impl.ErrForm},
		{"Wrapped of 301 bytes, the first of them right", right.Wrapped + mixedBytes(301-len(right.Wrapped)), right.Data, impl.ErrForm},
		{"Wrapped of MaxBytes + 1 bytes", mixedBytes(impl.MaxBytes + 1), right.Data, impl.ErrForm},
		{"Data of MaxBytes + 4 bytes that are not so made", right.Wrapped, mixedBytes(impl.MaxBytes + 4), impl.ErrSum},
		{"Data of MaxBytes + 5 bytes that are not so made", right.Wrapped, mixedBytes(impl.MaxBytes + 5), impl.ErrForm},
		{"Data of MaxBytes + 5 bytes with a right sum", right.Wrapped, plainSealData("dk", mixedBytes(impl.MaxBytes+1), 5), impl.ErrForm},
		{"Data of 4 * MaxBytes bytes", right.Wrapped, mixedBytes(4 * impl.MaxBytes), impl.ErrForm},
		{"Data of no bytes", right.Wrapped, "", impl.ErrSum},
		{"Data of 1 byte", right.Wrapped, right.Data[:1], impl.ErrSum},
		{"Data of 3 bytes", right.Wrapped, right.Data[:3], impl.ErrSum},
		{"Data of 4 bytes", right.Wrapped, right.Data[:4], impl.ErrSum},
		{"an empty Wrapped", "", right.Data, impl.ErrSum},
		{"Wrapped of 3 bytes", right.Wrapped[:3], right.Data, impl.ErrSum},
		{"Wrapped of 4 bytes", right.Wrapped[:4], right.Data, impl.ErrSum},
		{"Wrapped of 5 bytes", right.Wrapped[:5], right.Data, impl.ErrSum},
		{"both empty", "", "", impl.ErrSum},
	} {
		if got := impl.OpenSealed("m", impl.Sealed{Wrapped: c.wrapped, Data: c.data}, 5); !isBytes(got, c.code, "") {
			t.Errorf("%s: code %d", c.name, got.Code)
		}
	}
}

func TestP13WrongSealings(t *testing.T) {
	long := mixedBytes(impl.MaxBytes + 1)
	for _, data := range []string{"", "data", long, mixedBytes(4*impl.MaxBytes + 1)} {
		for _, key := range wrongKeys() {
			for _, got := range []impl.Sealed{impl.SealObject(key, "dk", 5, data), impl.SealObject("m", key, 5, data), impl.SealObject(key, key, 5, data), impl.SealObject(key, "dk", -1, data)} {
				if !isSealCode(got, impl.ErrForm) {
					t.Errorf("a key of %d bytes, data of %d: code %d", len(key), len(data), got.Code)
				}
			}
		}
		for _, nonce := range []int64{-1, math.MinInt64} {
			if got := impl.SealObject("m", "dk", nonce, data); !isSealCode(got, impl.ErrForm) {
				t.Errorf("nonce %d, data of %d bytes: code %d", nonce, len(data), got.Code)
			}
		}
	}
	for _, size := range []int{impl.MaxBytes + 1, impl.MaxBytes + 4, 2 * impl.MaxBytes, 4*impl.MaxBytes + 1} {
		if got := impl.SealObject("m", "dk", 5, mixedBytes(size)); !isSealCode(got, impl.ErrSize) {
			t.Errorf("data of %d bytes: code %d", size, got.Code)
		}
	}
}

func TestP13WrongOpenings(t *testing.T) {
	right := impl.SealObject("m", "dk", 5, "data")
	turned := impl.Sealed{Wrapped: right.Wrapped, Data: turnedAt(right.Data, 0, 1)}
	bent := impl.Sealed{Wrapped: turnedAt(right.Wrapped, 0, 1), Data: right.Data}
	for name, s := range map[string]impl.Sealed{"right": right, "Data turned": turned, "Wrapped turned": bent, "nothing": {}} {
		for _, key := range wrongKeys() {
			if got := impl.OpenSealed(key, s, 5); !isBytes(got, impl.ErrForm, "") {
				t.Errorf("%s, a master of %d bytes: %x", name, len(key), got)
			}
			if got := impl.Rewrap(key, "n", s, 5); !isSealCode(got, impl.ErrForm) {
				t.Errorf("%s, an old master of %d bytes: %x", name, len(key), got)
			}
			for _, old := range []string{"m", "other", "", key} {
				if got := impl.Rewrap(old, key, s, 5); !isSealCode(got, impl.ErrForm) {
					t.Errorf("%s, a new master of %d bytes: %x", name, len(key), got)
				}
			}
		}
		for _, nonce := range []int64{-1, -5, math.MinInt64} {
			if opened, again := impl.OpenSealed("m", s, nonce), impl.Rewrap("m", "n", s, nonce); !isBytes(opened, impl.ErrForm, "") || !isSealCode(again, impl.ErrForm) {
				t.Errorf("%s, nonce %d: %x, %x", name, nonce, opened, again)
			}
		}
		for _, code := range []int64{impl.ErrForm, impl.ErrSize, impl.ErrSum, 99, -1, math.MinInt64, math.MaxInt64} {
			coded := impl.Sealed{Code: code, Wrapped: s.Wrapped, Data: s.Data}
			opened, again, other := impl.OpenSealed("m", coded, 5), impl.Rewrap("m", "n", coded, 5), impl.OpenSealed("other", coded, 5)
			if !isBytes(opened, impl.ErrForm, "") || !isSealCode(again, impl.ErrForm) || !isBytes(other, impl.ErrForm, "") {
				t.Errorf("%s, code %d: %x, %x, %x", name, code, opened, again, other)
			}
		}
	}
	for name, s := range map[string]impl.Sealed{"long Wrapped": {Wrapped: mixedBytes(301), Data: right.Data}, "long Data": {Wrapped: right.Wrapped, Data: mixedBytes(impl.MaxBytes + 5)}} {
		for _, master := range []string{"m", "other"} {
			if opened, again := impl.OpenSealed(master, s, 5), impl.Rewrap(master, "n", s, 5); !isBytes(opened, impl.ErrForm, "") || !isSealCode(again, impl.ErrForm) {
				t.Errorf("%s, %s: codes %d, %d", name, master, opened.Code, again.Code)
			}
		}
	}
	for _, s := range []impl.Sealed{right, turned} {
		if got := impl.Rewrap("other", "n", s, 5); !isSealCode(got, impl.ErrSum) {
			t.Errorf("another old master: %x", got)
		}
		if got := impl.Rewrap("m", "n", s, 6); !isSealCode(got, impl.ErrSum) {
			t.Errorf("another nonce: %x", got)
		}
	}
}

// What was refused can't be opened: a Sealed with a code is none.
func TestP13WhatWasRefusedIsNotOpened(t *testing.T) {
	for _, s := range []impl.Sealed{impl.SealObject("", "dk", 5, "data"), impl.SealObject("m", "dk", 5, mixedBytes(impl.MaxBytes+1)), impl.Rewrap("m", "n", impl.Sealed{}, 5)} {
		if got := impl.OpenSealed("m", s, 5); !isBytes(got, impl.ErrForm, "") {
			t.Errorf("%x: %x", s, got)
		}
	}
}

// seals draws what is sealed, right and wrong.
type seals struct {
	chance *rand.Rand
}

func (x seals) text(most int) string {
	data := make([]byte, x.chance.Intn(most+1))
	x.chance.Read(data)
	return string(data)
}

func (x seals) key() string {
	switch x.chance.Intn(12) {
	case 0:
		return ""
	case 1:
		return times("k", 199+x.chance.Intn(4))
	case 2:
		return x.text(220)
	}
	return []string{"m", "n", "dk", "k"}[x.chance.Intn(4)]
}

func (x seals) nonce() int64 {
	return []int64{-1, 0, 1, 5, 5, 300, math.MaxInt64, math.MinInt64}[x.chance.Intn(8)]
}

// bend changes a little of what is sealed, or nothing.
func (x seals) bend(s impl.Sealed) impl.Sealed {
	switch x.chance.Intn(9) {
	case 0:
		s.Code = x.chance.Int63n(3) - 1
	case 1:
		s.Wrapped += x.text(3)
	case 2:
		s.Data += x.text(3)
	case 3:
		s.Wrapped = s.Wrapped[:x.chance.Intn(len(s.Wrapped)+1)]
	case 4:
		s.Data = s.Data[:x.chance.Intn(len(s.Data)+1)]
	case 5:
		s.Wrapped, s.Data = s.Data, s.Wrapped
	case 6:
		s.Wrapped = x.text(302)
	}
	return s
}

func TestP13SealedByTheWords(t *testing.T) {
	x := seals{rand.New(rand.NewSource(13))}
	opened, rewrapped := 0, 0
	for i := range 20000 {
		master, dataKey, nonce, data := x.key(), x.key(), x.nonce(), x.text(60)
		s := impl.SealObject(master, dataKey, nonce, data)
		if s != plainSeal(master, dataKey, nonce, data) {
			t.Fatalf("%d: %x", i, s)
		}
		s = x.bend(s)
		if x.chance.Intn(4) == 0 {
			master, nonce = x.key(), x.nonce()
		}
		got, again := impl.OpenSealed(master, s, nonce), impl.Rewrap(master, dataKey, s, nonce)
		if got != plainOpen(master, s, nonce) || again != plainRewrap(master, dataKey, s, nonce) {
			t.Fatalf("%d: %x, %x", i, got, again)
		}
		if got.Code == impl.OK {
			opened++
		}
		if again.Code == impl.OK {
			rewrapped++
		}
	}
	if opened < 1000 || rewrapped <= opened {
		t.Errorf("only %d opened, %d rewrapped", opened, rewrapped)
	}
}

func cloneSealed(s impl.Sealed) impl.Sealed {
	return impl.Sealed{Code: s.Code, Wrapped: strings.Clone(s.Wrapped), Data: strings.Clone(s.Data)}
}

func TestP13AnswersOfSealingAreNewMemory(t *testing.T) {
	for _, text := range []string{"", "data", allBytes(), mixedBytes(impl.MaxBytes)} {
		master, dataKey, data := newLoan("a master"), newLoan("a data key"), newLoan(text)
		stream := impl.StreamOf(master.text(), 5, 50)
		s := impl.SealObject(master.text(), dataKey.text(), 5, data.text())
		if !master.kept() || !dataKey.kept() || !data.kept() {
			t.Errorf("%d bytes: sealing wrote into an argument", len(text))
		}
		master.spoil()
		dataKey.spoil()
		data.spoil()
		if stream != plainStream("a master", 5, 50) || s != plainSeal("a master", "a data key", 5, text) {
			t.Errorf("%d bytes: what is sealed shares memory", len(text))
		}
		for _, given := range []impl.Sealed{s, {Wrapped: s.Wrapped, Data: "other"}, {Wrapped: "other", Data: s.Data}, {Code: 1, Wrapped: s.Wrapped, Data: s.Data}} {
			checkLentSealed(t, given)
		}
	}
}

// checkLentSealed opens and rewraps what is sealed, of which all is lent.
func checkLentSealed(t *testing.T, s impl.Sealed) {
	t.Helper()
	old, now, wrapped, data := newLoan("a master"), newLoan("another"), newLoan(s.Wrapped), newLoan(s.Data)
	lent := impl.Sealed{Code: s.Code, Wrapped: wrapped.text(), Data: data.text()}
	opened, again, same := impl.OpenSealed(old.text(), lent, 5), impl.Rewrap(old.text(), now.text(), lent, 5), impl.Rewrap(old.text(), old.text(), lent, 5)
	if !old.kept() || !now.kept() || !wrapped.kept() || !data.kept() {
		t.Error("opening wrote into an argument")
	}
	was, wasAgain, wasSame := plainOpen("a master", s, 5), plainRewrap("a master", "another", cloneSealed(s), 5), plainRewrap("a master", "a master", cloneSealed(s), 5)
	for _, l := range []*loan{old, now, wrapped, data} {
		l.spoil()
	}
	if opened != was || again != wasAgain || same != wasSame {
		t.Errorf("what is opened or rewrapped shares memory: codes %d, %d, %d", opened.Code, again.Code, same.Code)
	}
}

func TestP13NoCallOfSealingPanics(t *testing.T) {
	x := seals{rand.New(rand.NewSource(14))}
	texts := []string{"", "\x00", "m", "dk", times("k", impl.MaxKey), times("k", impl.MaxKey+1), "\xff\xff\xff", mixedBytes(300), mixedBytes(301), mixedBytes(impl.MaxBytes + 4), mixedBytes(4*impl.MaxBytes + 1)}
	numbers := []int64{math.MinInt64, -1, 0, 1, 5, 127, 128, 2 * impl.MaxBytes, 2*impl.MaxBytes + 1, math.MaxInt64}
	text := func() string { return texts[x.chance.Intn(len(texts))] }
	number := func() int64 { return numbers[x.chance.Intn(len(numbers))] }
	for range 5000 {
		master, now, dataKey, nonce := text(), text(), text(), number()
		s := impl.Sealed{Code: x.chance.Int63n(2), Wrapped: text(), Data: text()}
		noPanic(t, "StreamOf", func() { impl.StreamOf(master, nonce, number()) })
		noPanic(t, "SealObject", func() { impl.SealObject(master, dataKey, nonce, text()) })
		noPanic(t, "OpenSealed", func() { impl.OpenSealed(master, s, nonce) })
		noPanic(t, "Rewrap", func() { impl.Rewrap(master, now, s, nonce) })
	}
	// Any bytes that a right master finds in Wrapped, and a right data key in Data.
	for range 20000 {
		inside := x.text(12)
		s := impl.Sealed{Wrapped: plainVeil(inside+plainSum(inside, 8), "m", 5), Data: x.text(9)}
		noPanic(t, fmt.Sprintf("%q", inside), func() {
			if got, want := impl.OpenSealed("m", s, 5), plainOpen("m", s, 5); got != want {
				t.Errorf("%q: %x, not %x", inside, got, want)
			}
			impl.Rewrap("m", "n", s, 5)
		})
	}
}
