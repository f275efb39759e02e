// Package give lets code deep inside a layer give up with an error, which its exported functions return.
package give

import "foliant/api"

// Up gives up with an error.
func Up(e api.Errno) { panic(e) }

// UpOn gives up with an error, unless it is OK.
func UpOn(e api.Errno) {
	if e != api.OK {
		Up(e)
	}
}

// Value returns v, or gives up with the error beside it.
func Value[T any](v T, e api.Errno) T {
	UpOn(e)
	return v
}

// Caught returns what work returns, or the error with which it gives up. Any other panic is a mistake of the program, which must not pass for a result.
func Caught[T any](work func() T) (v T, e api.Errno) {
	defer func() {
		switch r := recover().(type) {
		case nil:
		case api.Errno:
			e = r
		default:
			panic(r)
		}
	}()
	return work(), api.OK
}
