// Package entry: entries of tables.
package entry

import (
	"penumbra/api"
)

// The digits of an entry. Those that are not among known must be 0.
const (
	present uint64 = 1 << 0
	write   uint64 = 1 << 1
	user    uint64 = 1 << 2
	global  uint64 = 1 << 8

	frameAt            = 12
	frameDigits        = 40
	frameMask   uint64 = 1<<frameDigits - 1

	known = present | write | user | global | frameMask<<frameAt
)

// Entry is what an entry says.
type Entry struct {
	Present, Write, User, Global bool
	Frame                        int
}

// Pack refuses what is not present: such an entry is made by Absent alone.
func Pack(e Entry) (uint64, api.Errno) {
	if !e.Present || e.Frame < 0 || e.Frame > int(frameMask) {
		return 0, api.ErrArg
	}
	x := present | uint64(e.Frame)<<frameAt
	if e.Write {
		x |= write
	}
	if e.User {
		x |= user
	}
	if e.Global {
		x |= global
	}
	return x, api.OK
}

// Unpack asks for Present first: in an entry that is not present the other
// digits mean nothing, so they can't be wrong.
func Unpack(x uint64) (Entry, api.Errno) {
	if x&present == 0 {
		return Entry{}, api.ErrNone
	}
	if x&^known != 0 {
		return Entry{}, api.ErrForm
	}
	return Entry{
		Present: true,
		Write:   x&write != 0,
		User:    x&user != 0,
		Global:  x&global != 0,
		Frame:   Raw(x),
	}, api.OK
}

// Raw looks at no other digit: it is what a guess takes for the frame, whether
// or not the entry is one.
func Raw(x uint64) int {
	return int(x >> frameAt & frameMask)
}

// Absent turns the digits, if invert, so that a guess at a small frame's entry
// leads past all memory that there is.
func Absent(frame int, invert bool) uint64 {
	return turned(uint64(frame)&frameMask, invert) << frameAt
}

// Of is Absent's way back: what was turned once is turned again.
func Of(x uint64, invert bool) int {
	return int(turned(uint64(Raw(x)), invert))
}

func turned(digits uint64, invert bool) uint64 {
	if invert {
		return digits ^ frameMask
	}
	return digits
}
