package tests

import (
	"bytes"
	"slices"
	"testing"
	"unsafe"
)

// noPanic runs a call and tells of a panic as a fault of the test.
func noPanic(t *testing.T, what string, call func()) {
	t.Helper()
	defer func() {
		if p := recover(); p != nil {
			t.Errorf("%s: panic: %v", what, p)
		}
	}()
	call()
}

// loan is a text whose memory the test can look at and change: only so does it show whether a call wrote into an
// argument, or whether an answer shares memory with one.
type loan struct {
	room []byte
	was  []byte
	size int
}

func newLoan(text string) *loan {
	room := append([]byte(text), "the room behind"...)
	return &loan{room: room, was: bytes.Clone(room), size: len(text)}
}

func (l *loan) text() string {
	return unsafe.String(unsafe.SliceData(l.room), l.size)
}

// kept tells whether the memory is as it was.
func (l *loan) kept() bool {
	return bytes.Equal(l.room, l.was)
}

// spoil changes every byte: an answer that shares memory changes with it.
func (l *loan) spoil() {
	for i := range l.room {
		l.room[i] ^= 0x5a
	}
}

// listLoan is a list with room behind it, of which the test can tell whether a call wrote into either.
type listLoan struct {
	room []int64
	was  []int64
	size int
}

func newListLoan(list []int64) *listLoan {
	room := append(slices.Clone(list), 77, 88, 99)
	return &listLoan{room: room, was: slices.Clone(room), size: len(list)}
}

func (l *listLoan) list() []int64 {
	return l.room[:l.size]
}

func (l *listLoan) kept() bool {
	return slices.Equal(l.room, l.was)
}

// spoil changes every number of a list, the room behind it included.
func spoil(list []int64) {
	list = list[:cap(list)]
	for i := range list {
		list[i] ^= 0x5a
	}
}
