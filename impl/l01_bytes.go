package impl

import "strings"

// Codes, see chapter 1.
const (
	OK        = 0
	ErrForm   = 1
	ErrSize   = 2
	ErrSyntax = 3
	ErrCount  = 4
	ErrNone   = 5
	ErrState  = 6
	ErrFull   = 7
	ErrLost   = 8
	ErrDenied = 9
	ErrStale  = 10
	ErrLocked = 11
	ErrSum    = 12
	ErrLate   = 13
)

// Limits of all chapters, see chapter 1.
const (
	MaxBytes = 100000
	MaxTime  = 4102444800
	MaxOps   = 2000
	SumPrime = 2147483647
)

// NumRead is a number that was read.
type NumRead struct {
	Good bool
	Num  int64
	Next int64
}

// TextRead is a text that was read.
type TextRead struct {
	Good bool
	Text string
	Next int64
}

// maxNumBytes is enough for the 63 bits of the greatest number, seven a byte.
const maxNumBytes = 9

const hexDigits = "0123456789abcdef"

const sumFactor = 65539

// sumBytes is how many bytes a sum is written in.
const sumBytes = 4

// cursor reads data from a place on. Where a method answers false, what was
// asked for does not stand there, and the place it is left at means nothing.
type cursor struct {
	data string
	at   int64
}

// left counts the bytes ahead. A place outside the data has none, so that no
// caller has to look at the place it was given.
func (c *cursor) left() int64 {
	size := int64(len(c.data))
	if c.at < 0 || c.at > size {
		return 0
	}
	return size - c.at
}

func (c *cursor) takeByte() (byte, bool) {
	if c.left() == 0 {
		return 0, false
	}
	b := c.data[c.at]
	c.at++
	return b, true
}

func (c *cursor) takeBytes(count int64) (string, bool) {
	if count < 0 || count > c.left() {
		return "", false
	}
	if count == 0 {
		return "", true
	}
	// A piece of data would keep all of it alive; an answer is new memory.
	piece := strings.Clone(c.data[c.at : c.at+count])
	c.at += count
	return piece, true
}

func (c *cursor) takeNum() (int64, bool) {
	var n uint64
	for i := range maxNumBytes {
		b, ok := c.takeByte()
		if !ok {
			return 0, false
		}
		n |= uint64(b&0x7f) << (7 * i)
		if b < 0x80 {
			// A last byte of 0 adds nothing: but for 0 itself, there is a shorter writing.
			return int64(n), b != 0 || i == 0
		}
	}
	return 0, false
}

func (c *cursor) takeText() (string, bool) {
	size, ok := c.takeNum()
	if !ok || size > MaxBytes {
		return "", false
	}
	return c.takeBytes(size)
}

func (c *cursor) takeHexDigit() (byte, bool) {
	b, ok := c.takeByte()
	switch {
	case !ok:
		return 0, false
	case '0' <= b && b <= '9':
		return b - '0', true
	case 'a' <= b && b <= 'f':
		return b - 'a' + 10, true
	}
	return 0, false
}

func (c *cursor) takeHexByte() (byte, bool) {
	high, ok := c.takeHexDigit()
	if !ok {
		return 0, false
	}
	low, ok := c.takeHexDigit()
	return high<<4 | low, ok
}

// PutNum writes a number, see chapter 2.
func PutNum(n int64) string {
	if n < 0 {
		return ""
	}
	out := make([]byte, 0, maxNumBytes)
	rest := uint64(n)
	for rest >= 0x80 {
		out = append(out, byte(rest)|0x80)
		rest >>= 7
	}
	return string(append(out, byte(rest)))
}

// GetNum reads one, see chapter 2.
func GetNum(data string, at int64) NumRead {
	c := &cursor{data: data, at: at}
	n, ok := c.takeNum()
	if !ok {
		return NumRead{}
	}
	return NumRead{Good: true, Num: n, Next: c.at}
}

// PutText writes a text, see chapter 2.
func PutText(t string) string {
	if len(t) > MaxBytes {
		return ""
	}
	return PutNum(int64(len(t))) + t
}

// GetText reads one, see chapter 2.
func GetText(data string, at int64) TextRead {
	c := &cursor{data: data, at: at}
	text, ok := c.takeText()
	if !ok {
		return TextRead{}
	}
	return TextRead{Good: true, Text: text, Next: c.at}
}

// Hex writes bytes as digits, see chapter 2.
func Hex(data string) string {
	if len(data) > MaxBytes {
		return ""
	}
	out := make([]byte, 0, 2*len(data))
	for i := range len(data) {
		out = append(out, hexDigits[data[i]>>4], hexDigits[data[i]&15])
	}
	return string(out)
}

// UnHex reads them, see chapter 2.
func UnHex(text string) TextRead {
	if len(text) > MaxBytes {
		return TextRead{}
	}
	c := &cursor{data: text}
	out := make([]byte, 0, len(text)/2)
	for c.left() > 0 {
		b, ok := c.takeHexByte()
		if !ok {
			return TextRead{}
		}
		out = append(out, b)
	}
	return TextRead{Good: true, Text: string(out), Next: c.at}
}

// firstSum is the sum of no bytes.
func firstSum(seed int64) int64 {
	return seed%SumPrime + 1
}

// sumOn goes on from the sum of what stands ahead of data, so that a beginning
// that many texts share is gone through once.
func sumOn(sum int64, data string) int64 {
	// Below 2^31 times 65539, and a byte, is far from the end of an int64.
	for i := range len(data) {
		sum = (sum*sumFactor + int64(data[i]) + 1) % SumPrime
	}
	return sum
}

// putSum writes a sum, the highest byte first.
func putSum(sum int64) string {
	n := uint32(sum)
	return string([]byte{byte(n >> 24), byte(n >> 16), byte(n >> 8), byte(n)})
}

// SumOf is a sum of bytes, see chapter 2.
func SumOf(data string, seed int64) int64 {
	if seed < 0 || len(data) > 4*MaxBytes {
		return 0
	}
	return sumOn(firstSum(seed), data)
}
