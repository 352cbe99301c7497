// Package wire is layer 1, a canonical encoding as text: see shared/doc/01-wire.md.
package wire

import (
	"strconv"
	"strings"
)

// Num returns the encoding of an int as a number, or the empty string if n is negative.
func Num(n int) string {
	if n < 0 {
		return ""
	}
	return Int(n)
}

// Int returns the encoding of an int.
func Int(n int) string { return strconv.Itoa(n) + ";" }

// Text returns the encoding of a string.
func Text(s string) string { return strconv.Itoa(len(s)) + ":" + s + "," }

// Nums returns the encoding of a list of ints.
func Nums(l []int) string { return writeList(l, Int) }

// Texts returns the encoding of a list of strings.
func Texts(l []string) string { return writeList(l, Text) }

// writeList returns the encoding of a list whose elements are encoded by write.
func writeList[T any](l []T, write func(T) string) string {
	var b strings.Builder
	b.WriteString(strconv.Itoa(len(l)))
	b.WriteByte('[')
	for _, x := range l {
		b.WriteString(write(x))
	}
	b.WriteByte(']')
	return b.String()
}

// Reader reads values from the beginning of a string.
type Reader struct {
	left   string // what has not been read
	failed bool
}

// Open returns a reader at the beginning of a string.
func Open(s string) *Reader { return &Reader{left: s} }

// fail leaves nothing to read: no encoding is empty, so every later call fails by itself.
func (r *Reader) fail() { r.left, r.failed = "", true }

// Num reads a number.
func (r *Reader) Num() int { return r.number(";") }

// Int reads an int.
func (r *Reader) Int() int { return r.integer(";") }

// Text reads a string.
func (r *Reader) Text() string {
	n := r.number(":")
	// Not n+1 > len: the length may be the greatest int.
	if n >= len(r.left) || r.left[n] != ',' {
		r.fail()
		return ""
	}
	s := r.left[:n]
	r.left = r.left[n+1:]
	return s
}

// Nums reads a list of ints.
func (r *Reader) Nums() []int { return readList(r, r.Int) }

// Texts reads a list of strings.
func (r *Reader) Texts() []string { return readList(r, r.Text) }

// Rest returns the bytes that have not been read, and moves the reader to the end.
func (r *Reader) Rest() string {
	s := r.left
	r.left = ""
	return s
}

// Left returns the number of bytes that have not been read.
func (r *Reader) Left() int { return len(r.left) }

// Done reports whether the reader has not failed, and everything was read.
func (r *Reader) Done() bool { return !r.failed && r.left == "" }

// number is integer for an int that is not negative.
func (r *Reader) number(end string) int {
	n := r.integer(end)
	if n < 0 {
		r.fail()
		return 0
	}
	return n
}

// longest is the length of the longest int with the end after it.
const longest = len("-9223372036854775808;")

// integer reads an int in decimal and the end after it.
func (r *Reader) integer(end string) int {
	// Not all of what is left is searched for the end: it may be very long, and have none.
	digits, _, found := strings.Cut(r.left[:min(longest, len(r.left))], end)
	n, err := strconv.Atoi(digits)
	// Atoi also takes a plus, leading zeros and -0: only what is written back alike is an encoding.
	if !found || err != nil || strconv.Itoa(n) != digits {
		r.fail()
		return 0
	}
	r.left = r.left[len(digits)+len(end):]
	return n
}

// readList reads a list whose elements are read by read, a method of r.
func readList[T any](r *Reader, read func() T) []T {
	n := r.number("[")
	// No room is made for n elements in advance: n may be far more than there are.
	var l []T
	for i := 0; i < n && !r.failed; i++ {
		l = append(l, read())
	}
	if !strings.HasPrefix(r.left, "]") {
		r.fail()
		return nil
	}
	r.left = r.left[1:]
	return l
}
