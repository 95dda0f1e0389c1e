package syntax

import "parallax/api"

// fault is what is thrown where no reading can go on.
type fault struct {
	at int
	e  api.Errno
}

// attempt reads, and tells where and why that was given up, if it was.
func attempt(read func()) (at int, e api.Errno) {
	defer func() {
		if thrown := recover(); thrown != nil {
			f := thrown.(fault) // nothing else is thrown
			at, e = f.at, f.e
		}
	}()
	read()
	return 0, api.OK
}

// tokenReader goes through a row of tokens that is right.
type tokenReader struct {
	row  []api.Token
	next int
}

// now is the token that is next. The end is never taken, so that there always is one.
func (r *tokenReader) now() api.Token { return r.row[r.next] }

// wrong is the fault of the token that is next.
func (r *tokenReader) wrong(e api.Errno) fault { return fault{r.now().At, e} }

// is tells whether a key word or a sign is next: no name is spelt as one, and no integer nor the end has a text.
func (r *tokenReader) is(text string) bool { return r.now().Text == text }

// has takes a key word or a sign, if it is next.
func (r *tokenReader) has(text string) bool {
	if !r.is(text) {
		return false
	}
	r.next++
	return true
}

// must takes the key word or sign that alone can stand there.
func (r *tokenReader) must(text string) {
	if !r.has(text) {
		panic(r.wrong(api.ErrSyntax))
	}
}

// name takes the name that alone can stand there.
func (r *tokenReader) name() string {
	t := r.now()
	if t.Kind != api.TName {
		panic(r.wrong(api.ErrSyntax))
	}
	r.next++
	return t.Text
}

// begin takes the first token of a part. What can not stand there is told ahead of what is too deep.
func (r *tokenReader) begin(fits bool, deep int) api.Token {
	if !fits {
		panic(r.wrong(api.ErrSyntax))
	}
	if deep > api.MaxDeep {
		panic(r.wrong(api.ErrDeep))
	}
	t := r.now()
	r.next++
	return t
}
