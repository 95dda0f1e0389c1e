package syntax_test

import (
	"strings"

	"parallax/api"
)

// grammar is the document's, a form a line: what it is, and of what. SIZE is an INT that is not 0.
const grammar = `
file = program END
program =
program = program procedure
procedure = proc NAME ( parameters ) answer block
parameters =
parameters = someparameters
someparameters = type NAME
someparameters = someparameters , type NAME
answer =
answer = type
type = int
type = bool
block = { statements }
statements =
statements = statements statement
statement = var NAME ;
statement = var bool NAME ;
statement = var NAME [ SIZE ] ;
statement = NAME = expression ;
statement = NAME [ expression ] = expression ;
statement = if ( expression ) block
statement = if ( expression ) block else block
statement = while ( expression ) block
statement = NAME ( expressions ) ;
statement = NAME = NAME ( expressions ) ;
statement = return ;
statement = return expression ;
statement = print expression ;
statement = read NAME ;
statement = assert expression ;
expressions =
expressions = someexpressions
someexpressions = expression
someexpressions = someexpressions , expression
expression = and
expression = expression || and
and = comparison
and = and && comparison
comparison = sum
comparison = sum == sum
comparison = sum != sum
comparison = sum < sum
comparison = sum <= sum
sum = product
sum = sum + product
sum = sum - product
product = unary
product = product * unary
product = product / unary
product = product % unary
unary = - unary
unary = ! unary
unary = INT
unary = true
unary = false
unary = NAME
unary = NAME [ expression ]
unary = ( expression )
INT = SIZE
INT = ZERO
alone = expression END
`

// rules are the forms of each kind.
func rules() map[string][][]string {
	m := map[string][][]string{}
	for _, line := range strings.Split(strings.TrimSpace(grammar), "\n") {
		l := strings.Fields(line)
		m[l[0]] = append(m[l[0]], l[2:])
	}
	return m
}

var grammarRules = rules()

// item is a form of which so much has been read, begun ahead of the token of that number.
type item struct {
	kind      string
	form      int
	read      int
	beganWith int
}

// terminal is how the grammar calls a token.
func terminal(t api.Token) string {
	switch {
	case t.Kind == api.TEnd:
		return "END"
	case t.Kind == api.TName:
		return "NAME"
	case t.Kind == api.TInt && t.Num == 0:
		return "ZERO"
	case t.Kind == api.TInt:
		return "SIZE"
	}
	return t.Text
}

// firstThatCanNotStand tries all forms of the grammar side by side: the number of the first token with which none can go on; -1, if there is none.
func firstThatCanNotStand(l []api.Token, start string) int {
	var sets [][]item
	now := []item{{kind: start}}
	for i, t := range l {
		seen := map[item]bool{now[0]: true}
		for _, x := range now {
			seen[x] = true
		}
		add := func(x item) {
			if !seen[x] {
				seen[x] = true
				now = append(now, x)
			}
		}
		sets = append(sets, nil)
		for k := 0; k < len(now); k++ {
			x := now[k]
			sets[i] = now
			form := grammarRules[x.kind][x.form]
			if x.read == len(form) {
				// What waits for it in the set that it began in. That set may be this one, and still grow: all forms that are empty are asked for anew below.
				for _, y := range sets[x.beganWith] {
					f := grammarRules[y.kind][y.form]
					if y.read < len(f) && f[y.read] == x.kind {
						y.read++
						add(y)
					}
				}
				continue
			}
			next := form[x.read]
			for n, f := range grammarRules[next] {
				add(item{kind: next, form: n, beganWith: i})
				if len(f) == 0 {
					x.read++
					add(x)
					x.read--
				}
			}
		}
		sets[i] = now
		now = nil
		for _, x := range sets[i] {
			form := grammarRules[x.kind][x.form]
			if x.read < len(form) && form[x.read] == terminal(t) {
				x.read++
				now = append(now, x)
			}
		}
		if len(now) == 0 {
			return i
		}
	}
	return -1
}
