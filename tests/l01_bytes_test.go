package tests

import (
	"encoding/binary"
	"encoding/hex"
	"fmt"
	"math"
	"math/big"
	"math/rand"
	"strings"
	"testing"

	"loop.example/g00020/impl"
)

// edgeNumbers: each place where a number gets one bit more, and its neighbours.
func edgeNumbers() []int64 {
	list := []int64{0, 300, math.MaxInt64}
	for k := range 63 {
		p := int64(1) << k
		list = append(list, p-1, p, p+1)
	}
	return list
}

// mixedBytes gives bytes of all kinds, the same ones in each run.
func mixedBytes(size int) string {
	out := make([]byte, size)
	for i := range out {
		out[i] = byte(i * 7)
	}
	return string(out)
}

func allBytes() string {
	out := make([]byte, 256)
	for i := range out {
		out[i] = byte(i)
	}
	return string(out)
}

func TestP1NumbersAsTheDocumentWritesThem(t *testing.T) {
	for _, c := range []struct {
		n    int64
		text string
	}{
		{0, "\x00"}, {1, "\x01"}, {127, "\x7f"}, {128, "\x80\x01"}, {255, "\xff\x01"}, {16383, "\xff\x7f"},
		{16384, "\x80\x80\x01"}, {1 << 62, "\x80\x80\x80\x80\x80\x80\x80\x80\x40"},
		{math.MaxInt64, "\xff\xff\xff\xff\xff\xff\xff\xff\x7f"}, {-1, ""}, {-128, ""}, {math.MinInt64, ""},
	} {
		if got := impl.PutNum(c.n); got != c.text {
			t.Errorf("PutNum(%d) = %q, not %q", c.n, got, c.text)
		}
	}
	for _, n := range edgeNumbers() {
		if got, want := impl.PutNum(n), string(binary.AppendUvarint(nil, uint64(n))); got != want {
			t.Errorf("PutNum(%d) = %q, not %q", n, got, want)
		}
	}
}

func TestP1NumbersComeBack(t *testing.T) {
	for _, n := range edgeNumbers() {
		text := impl.PutNum(n)
		for _, before := range []string{"", "x", "\x80\xff"} {
			for _, behind := range []string{"", "\x00", "\x80", "\xff\xff"} {
				at := int64(len(before))
				got := impl.GetNum(before+text+behind, at)
				if want := (impl.NumRead{Good: true, Num: n, Next: at + int64(len(text))}); got != want {
					t.Errorf("%d between %q and %q: %+v, not %+v", n, before, behind, got, want)
				}
			}
		}
	}
}

func TestP1NumbersInDataOfAnyLength(t *testing.T) {
	before := strings.Repeat("\xff", 5*impl.MaxBytes)
	at := int64(len(before))
	if got := impl.GetNum(before+"\xac\x02tail", at); got != (impl.NumRead{Good: true, Num: 300, Next: at + 2}) {
		t.Errorf("a number: %+v", got)
	}
	if got := impl.GetText(before+"\x02abc", at); got != (impl.TextRead{Good: true, Text: "ab", Next: at + 3}) {
		t.Errorf("a text: %+v", got)
	}
}

func TestP1NumbersThatAreNone(t *testing.T) {
	greatest := impl.PutNum(math.MaxInt64)
	type place struct {
		data string
		at   int64
	}
	list := []place{
		{"", 0}, {"", 1}, {"", -1}, {"a", 1}, {"a", 2}, {"a", -1}, {"abc", 3}, {"abc", math.MaxInt64}, {"abc", math.MinInt64},
		{"\x80\x00", 0}, {"\xff\x00", 0}, {"\x80\x80\x00", 0}, {"\x81\x80\x00tail", 0}, {"x\x80\x00", 1},
		{strings.Repeat("\x80", 8) + "\x00", 0}, {strings.Repeat("\x80", 9) + "\x00", 0}, {strings.Repeat("\x80", 9) + "\x01", 0},
		{strings.Repeat("\xff", 9) + "\x00", 0}, {strings.Repeat("\xff", 9) + "\x01", 0}, {strings.Repeat("\xff", 9) + "\x7f", 0},
		{strings.Repeat("\x80", 64) + "\x01", 0}, {strings.Repeat("\xff", 1000), 0},
	}
	for cut := range len(greatest) {
		list = append(list, place{greatest[:cut], 0})
	}
	for _, p := range list {
		if got := impl.GetNum(p.data, p.at); got != (impl.NumRead{}) {
			t.Errorf("GetNum(%q, %d) = %+v", p.data, p.at, got)
		}
	}
}

// Every data of up to two bytes, and three with the bytes at the edges: a number is read exactly where its own writing begins.
func TestP1NumbersOfAllShortData(t *testing.T) {
	edges := []byte{0, 1, 0x7f, 0x80, 0x81, 0xff}
	check := func(data string) {
		got := impl.GetNum(data, 0)
		if got.Good {
			if !strings.HasPrefix(data, impl.PutNum(got.Num)) || got.Next != int64(len(impl.PutNum(got.Num))) {
				t.Errorf("%q: %+v", data, got)
			}
			return
		}
		n, size := binary.Uvarint([]byte(data))
		if got != (impl.NumRead{}) || size > 0 && string(binary.AppendUvarint(nil, n)) == data[:size] {
			t.Errorf("%q: %+v", data, got)
		}
	}
	for a := range 256 {
		check(string([]byte{byte(a)}))
		for b := range 256 {
			check(string([]byte{byte(a), byte(b)}))
			for _, c := range edges {
				check(string([]byte{byte(a), byte(b), c}))
			}
		}
	}
}

func TestP1TextsComeBack(t *testing.T) {
	for _, size := range []int{0, 1, 2, 127, 128, 129, 16383, 16384, impl.MaxBytes - 1, impl.MaxBytes} {
		text := mixedBytes(size)
		put := impl.PutText(text)
		if want := string(binary.AppendUvarint(nil, uint64(size))) + text; put != want {
			t.Fatalf("%d bytes: put is another", size)
		}
		for _, behind := range []string{"", "tail"} {
			got := impl.GetText("xy"+put+behind, 2)
			if want := (impl.TextRead{Good: true, Text: text, Next: int64(len(put)) + 2}); got != want {
				t.Errorf("%d bytes: Good %t, Next %d, %d bytes", size, got.Good, got.Next, len(got.Text))
			}
		}
	}
}

func TestP1TextsThatAreNone(t *testing.T) {
	long := mixedBytes(impl.MaxBytes + 1)
	for _, size := range []int{1, 2, 3 * impl.MaxBytes} {
		if got := impl.PutText(mixedBytes(impl.MaxBytes + size)); got != "" {
			t.Errorf("PutText of %d bytes too many gave %d bytes", size, len(got))
		}
	}
	for _, c := range []struct {
		name string
		data string
		at   int64
	}{
		{"no data", "", 0}, {"below", "\x01a", -1}, {"far below", "\x01a", math.MinInt64}, {"at the end", "\x01a", 2},
		{"beyond", "\x01a", 3}, {"far beyond", "\x01a", math.MaxInt64}, {"one lacks", "\x03ab", 0}, {"all lack", "\x03", 0},
		{"the length ends early", "\x80", 0}, {"the length is more than needed", "\x82\x00ab", 0},
		{"a length of one too many", impl.PutNum(impl.MaxBytes+1) + long, 0},
		{"a length of MaxBytes that are not there", impl.PutNum(impl.MaxBytes) + long[:impl.MaxBytes-1], 0},
		{"a length of 2^31", impl.PutNum(1<<31) + "ab", 0}, {"a length of 2^32", impl.PutNum(1<<32) + "ab", 0},
		{"the greatest length", impl.PutNum(math.MaxInt64) + "ab", 0},
		{"a length above that", strings.Repeat("\xff", 9) + "\x01ab", 0},
	} {
		if got := impl.GetText(c.data, c.at); got != (impl.TextRead{}) {
			t.Errorf("%s: Good %t, Next %d, %d bytes", c.name, got.Good, got.Next, len(got.Text))
		}
	}
}

func TestP1DigitsComeBack(t *testing.T) {
	for _, data := range []string{"", "\x00", "\xff", "\x0f\xf0", "The text", allBytes(), mixedBytes(impl.MaxBytes / 2)} {
		digits := impl.Hex(data)
		if digits != hex.EncodeToString([]byte(data)) {
			t.Errorf("Hex of %d bytes is another", len(data))
		}
		if got, want := impl.UnHex(digits), (impl.TextRead{Good: true, Text: data, Next: int64(len(digits))}); got != want {
			t.Errorf("UnHex of %d digits: Good %t, Next %d, %d bytes", len(digits), got.Good, got.Next, len(got.Text))
		}
	}
}

func TestP1DigitsAtTheLimits(t *testing.T) {
	most := mixedBytes(impl.MaxBytes)
	if impl.Hex(most) != hex.EncodeToString([]byte(most)) {
		t.Error("Hex of MaxBytes bytes is another")
	}
	if got := impl.Hex(most + "x"); got != "" {
		t.Errorf("Hex of one byte too many gave %d digits", len(got))
	}
	for _, size := range []int{impl.MaxBytes + 1, impl.MaxBytes + 2, 2 * impl.MaxBytes} {
		if got := impl.UnHex(strings.Repeat("0", size)); got != (impl.TextRead{}) {
			t.Errorf("UnHex of %d digits: Good %t, Next %d", size, got.Good, got.Next)
		}
	}
}

func TestP1DigitsThatAreNone(t *testing.T) {
	for _, text := range []string{"0", "0a0", "0A", "A0", "fF", "0g", "g0", "0x", " 00", "00 ", "0 0", "00\n", "é", "\x00\x00", strings.Repeat("0", impl.MaxBytes-1)} {
		if got := impl.UnHex(text); got != (impl.TextRead{}) {
			t.Errorf("UnHex(%.20q) = Good %t, Next %d", text, got.Good, got.Next)
		}
	}
	for b := range 256 {
		good := strings.IndexByte("0123456789abcdef", byte(b)) >= 0
		for _, text := range []string{string([]byte{byte(b), '7'}), string([]byte{'7', byte(b)}), string([]byte{'1', '2', '7', byte(b)})} {
			if impl.UnHex(text).Good != good {
				t.Errorf("UnHex(%q): Good is not %t", text, good)
			}
		}
	}
}

func TestP1SumsThatAreKnown(t *testing.T) {
	for _, c := range []struct {
		data string
		seed int64
		sum  int64
	}{
		{"", 0, 1}, {"", impl.SumPrime - 1, impl.SumPrime}, {"", impl.SumPrime, 1}, {"", impl.SumPrime + 1, 2}, {"", math.MaxInt64, 2},
		{"\x00", 0, 65540}, {"\x00\x00", 0, 458767}, {"\xff", impl.SumPrime - 1, 256},
		{"abc", 0, 46925296}, {"abc", 17, 79235309}, {"abc", math.MaxInt64, 48825885},
		{"hello, world\n", 5, 1467650183}, {allBytes(), 9, 797373622},
		{strings.Repeat("\xff", 4*impl.MaxBytes), math.MaxInt64, 1172316755}, {mixedBytes(4 * impl.MaxBytes), 3, 290960371},
	} {
		if got := impl.SumOf(c.data, c.seed); got != c.sum {
			t.Errorf("%d bytes %.14q, seed %d: %d, not %d", len(c.data), c.data, c.seed, got, c.sum)
		}
	}
}

func TestP1SumsThatAreRefused(t *testing.T) {
	most := mixedBytes(4 * impl.MaxBytes)
	for _, seed := range []int64{0, 5, impl.SumPrime, math.MaxInt64} {
		if got := impl.SumOf(most+"x", seed); got != 0 {
			t.Errorf("one byte too many, seed %d: %d", seed, got)
		}
	}
	for _, seed := range []int64{-1, -2, -impl.SumPrime, math.MinInt64} {
		for _, data := range []string{"", "a", most} {
			if got := impl.SumOf(data, seed); got != 0 {
				t.Errorf("%d bytes, seed %d: %d", len(data), seed, got)
			}
		}
	}
}

// bigSum follows the document's words in numbers that have no end.
func bigSum(data string, seed int64) int64 {
	prime, sum := big.NewInt(2147483647), big.NewInt(seed)
	sum.Mod(sum, prime).Add(sum, big.NewInt(1))
	for i := range len(data) {
		sum.Mul(sum, big.NewInt(65539))
		sum.Add(sum, big.NewInt(int64(data[i])+1))
		sum.Mod(sum, prime)
	}
	return sum.Int64()
}

func TestP1SumsOfManyTextsAndSeeds(t *testing.T) {
	for _, seed := range append(edgeNumbers(), impl.SumPrime-1, impl.SumPrime, impl.SumPrime+1) {
		for _, data := range []string{"", "\x00", "\xff", "a", "abc", mixedBytes(300)} {
			if got, want := impl.SumOf(data, seed), bigSum(data, seed); got != want {
				t.Errorf("%d bytes, seed %d: %d, not %d", len(data), seed, got, want)
			}
		}
	}
}

var turnSeeds = []int64{0, 1, 5, impl.SumPrime - 1, impl.SumPrime, math.MaxInt64}

func TestP1SumsTellEachTurnedByte(t *testing.T) {
	for _, text := range []string{"\x00", "ab", "\xff\x00\x80", mixedBytes(40)} {
		for _, seed := range turnSeeds {
			sum, data := impl.SumOf(text, seed), []byte(text)
			for at := range data {
				for turn := 1; turn < 256; turn++ {
					data[at] ^= byte(turn)
					if impl.SumOf(string(data), seed) == sum {
						t.Errorf("%q for %q, seed %d: the same sum", data, text, seed)
					}
					data[at] ^= byte(turn)
				}
			}
		}
	}
}

func TestP1SumsTellATurnedByteOfTheLongestText(t *testing.T) {
	data := []byte(mixedBytes(4 * impl.MaxBytes))
	for _, seed := range []int64{0, math.MaxInt64} {
		sum := impl.SumOf(string(data), seed)
		for _, at := range []int{0, 1, impl.MaxBytes, 2*impl.MaxBytes + 7, len(data) - 1} {
			for _, turn := range []byte{1, 128, 255} {
				data[at] ^= turn
				if impl.SumOf(string(data), seed) == sum {
					t.Errorf("byte %d xor %d, seed %d: the same sum", at, turn, seed)
				}
				data[at] ^= turn
			}
		}
	}
}

// No argument is changed, and no answer lies in an argument's memory.
func TestP1ArgumentsStayAndAnswersAreNew(t *testing.T) {
	for _, c := range []struct {
		name string
		text string
		call func(text string) string
	}{
		{"GetNum", "\xac\x02abc", func(s string) string { return fmt.Sprint(impl.GetNum(s, 0)) }},
		{"PutText", "some text", impl.PutText},
		{"PutText of nothing", "", impl.PutText},
		{"GetText", "\x03abcdef", func(s string) string { return impl.GetText(s, 0).Text }},
		{"GetText of all", "x\x03abc", func(s string) string { return impl.GetText(s, 1).Text }},
		{"GetText of nothing", "\x00", func(s string) string { return impl.GetText(s, 0).Text }},
		{"GetText that is none", "\x09abc", func(s string) string { return impl.GetText(s, 0).Text }},
		{"Hex", "some text", impl.Hex},
		{"UnHex", "00ab7a", func(s string) string { return impl.UnHex(s).Text }},
		{"UnHex that is none", "00aB7a", func(s string) string { return impl.UnHex(s).Text }},
		{"SumOf", "some text", func(s string) string { return fmt.Sprint(impl.SumOf(s, 5)) }},
	} {
		l := newLoan(c.text)
		answer := c.call(l.text())
		if !l.kept() {
			t.Errorf("%s: its argument was changed", c.name)
		}
		was := strings.Clone(answer)
		l.spoil()
		if answer != was {
			t.Errorf("%s: its answer shares memory with its argument", c.name)
		}
	}
}

func callBytes(text string, n int64) {
	impl.PutNum(n)
	impl.GetNum(text, n)
	impl.PutText(text)
	impl.GetText(text, n)
	impl.Hex(text)
	impl.UnHex(text)
	impl.SumOf(text, n)
}

func TestP1NoCallPanics(t *testing.T) {
	numbers := []int64{math.MinInt64, math.MinInt64 + 1, -impl.SumPrime, -1, 0, 1, 2, 3, impl.MaxBytes, impl.MaxBytes + 1,
		4 * impl.MaxBytes, math.MaxInt32, math.MaxUint32, math.MaxInt64 - 1, math.MaxInt64}
	texts := []string{"", "\x00", "\x80", "\xff", "a", "0", "00", "é", impl.PutNum(math.MaxInt64), impl.PutNum(math.MaxInt64) + "a",
		strings.Repeat("\xff", 20), mixedBytes(impl.MaxBytes), mixedBytes(impl.MaxBytes + 1), mixedBytes(4*impl.MaxBytes + 1)}
	for _, text := range texts {
		for _, n := range numbers {
			noPanic(t, fmt.Sprintf("%d bytes %.20q, %d", len(text), text, n), func() { callBytes(text, n) })
		}
	}
	chance := rand.New(rand.NewSource(1))
	for range 20000 {
		data := make([]byte, chance.Intn(12))
		chance.Read(data)
		n := int64(chance.Uint64()) >> chance.Intn(64)
		noPanic(t, fmt.Sprintf("%q, %d", data, n), func() { callBytes(string(data), n) })
	}
}
