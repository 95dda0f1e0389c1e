package tape

import "parallax/api"

// attempt reads what may be given up, and tells the error for which it was, if it was.
func attempt(read func()) (e api.Errno) {
	defer func() {
		if thrown := recover(); thrown != nil {
			e = thrown.(api.Errno) // nothing else is thrown
		}
	}()
	read()
	return api.OK
}

// must gives up with an error, if something is wrong.
func must(fits bool, e api.Errno) {
	if !fits {
		panic(e)
	}
}
