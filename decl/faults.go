package decl

import "parallax/api"

// attempt does what may be given up, and tells the error for which it was, if it was.
func attempt(do func()) (e api.Errno) {
	defer func() {
		if thrown := recover(); thrown != nil {
			e = thrown.(api.Errno) // nothing else is thrown
		}
	}()
	do()
	return api.OK
}

// must gives up with an error, if something does not fit.
func must(fits bool, e api.Errno) {
	if !fits {
		panic(e)
	}
}
