package check_test

import (
	"reflect"
	"strconv"
	"strings"
	"testing"

	"parallax/api"
	"parallax/check"
	"parallax/syntax"
)

// parsed is the program of a source.
func parsed(t *testing.T, s string) api.Prog {
	t.Helper()
	p, at, e := syntax.Parse(s)
	if e != api.OK {
		t.Fatalf("Parse(%q): %d at %d", s, e, at)
	}
	return p
}

// same tells whether two are the same; a list without elements may be nil or empty.
func same(a, b check.Info) bool {
	if len(a.Vars) != len(b.Vars) || len(a.Marks) != len(b.Marks) {
		return false
	}
	for i := range a.Vars {
		if len(a.Vars[i]) != len(b.Vars[i]) || len(a.Vars[i]) > 0 && !reflect.DeepEqual(a.Vars[i], b.Vars[i]) {
			return false
		}
	}
	return len(a.Marks) == 0 || reflect.DeepEqual(a.Marks, b.Marks)
}

// refusesProg asks that a program is told as wrong at that place.
func refusesProg(t *testing.T, p api.Prog, proc, mark int, want api.Errno) {
	t.Helper()
	info, at, e := check.Check(p)
	if !same(info, check.Info{}) || at != (check.Place{Proc: proc, Mark: mark}) || e != want {
		text, _ := syntax.Print(p)
		t.Errorf("Check(%q %v) = %v, %v, %d; want %d %d, %d", text, p, info, at, e, proc, mark, want)
	}
}

func refuses(t *testing.T, s string, proc, mark int, want api.Errno) {
	t.Helper()
	refusesProg(t, parsed(t, s), proc, mark, want)
}

// takesProg asks that a program is right, and answers what is known of it.
func takesProg(t *testing.T, p api.Prog) check.Info {
	t.Helper()
	info, at, e := check.Check(p)
	if at != (check.Place{}) || e != api.OK || len(info.Vars) != len(p.Procs) || len(info.Marks) != len(p.Procs) {
		text, _ := syntax.Print(p)
		t.Errorf("Check(%q) = %v, %v, %d", text, info, at, e)
	}
	return info
}

func takes(t *testing.T, s string) check.Info {
	t.Helper()
	return takesProg(t, parsed(t, s))
}

// procs are so many procedures of unlike names.
func procs(n int) string {
	var b strings.Builder
	for i := range n {
		b.WriteString("proc p" + strconv.Itoa(i) + "(){}")
	}
	return b.String()
}

func TestCheckWhole(t *testing.T) { // P4.1: of the whole program
	refuses(t, "", 0, 0, api.ErrMain)
	refuses(t, "proc f(){}", 0, 0, api.ErrMain)
	refuses(t, "proc f(){} proc main(int a){}", 0, 0, api.ErrMain)
	refuses(t, "proc f(){} proc main() int {return 1;}", 0, 0, api.ErrMain)
	refuses(t, "proc main() bool {}", 0, 0, api.ErrMain)
	refuses(t, "proc main(){} proc f(){} proc f(){}", 0, 0, api.ErrName)
	refuses(t, "proc main(){} proc main(int a){}", 0, 0, api.ErrName)
	refuses(t, "proc f(){} proc f(){}", 0, 0, api.ErrName)
	refuses(t, procs(40)+"proc main(){}", 0, 0, api.ErrLong)
	refuses(t, procs(39)+"proc main(){} proc main(){}", 0, 0, api.ErrLong)
	refuses(t, procs(41), 0, 0, api.ErrLong)
	refuses(t, "proc main(){x=1;} proc f(){} proc f(){}", 0, 0, api.ErrName)
	refuses(t, "proc f(){x=1;}", 0, 0, api.ErrMain)
	takes(t, procs(39)+"proc main(){}")
	takes(t, "proc main(){}"+procs(39))
	takes(t, "proc main(){}")
}

// params are so many parameters, and vars so many variables of a procedure.
func params(n int) string {
	var l []string
	for i := range n {
		l = append(l, "int a"+strconv.Itoa(i))
	}
	return strings.Join(l, ",")
}

func vars(n int) string {
	var b strings.Builder
	for i := range n {
		b.WriteString("var v" + strconv.Itoa(i) + ";")
	}
	return b.String()
}

func TestCheckDeclarations(t *testing.T) { // P4.1: at the mark 0
	takes(t, "proc main(){} proc f("+params(8)+"){}")
	takes(t, "proc main(){"+vars(60)+"}")
	takes(t, "proc main(){} proc f("+params(8)+"){"+vars(52)+"}")
	refuses(t, "proc main(){} proc f("+params(9)+"){}", 1, 0, api.ErrLong)
	refuses(t, "proc main(){"+vars(61)+"}", 0, 0, api.ErrLong)
	refuses(t, "proc main(){} proc f("+params(1)+"){"+vars(60)+"}", 1, 0, api.ErrLong)
	refuses(t, "proc main(){"+vars(60)+"while(true){if(true){}else{var w;}}}", 0, 0, api.ErrLong)
	refuses(t, "proc main(){} proc f("+params(9)+"){var a0;}", 1, 0, api.ErrLong)
	refuses(t, "proc main(){"+vars(60)+"var v0;}", 0, 0, api.ErrLong)
	refuses(t, "proc main(){} proc f(int a,bool a){}", 1, 0, api.ErrName)
	refuses(t, "proc main(){} proc f(int a){var a;}", 1, 0, api.ErrName)
	refuses(t, "proc main(){var x; var bool x;}", 0, 0, api.ErrName)
	refuses(t, "proc main(){if(true){var x;}else{var x;}}", 0, 0, api.ErrName)
	refuses(t, "proc main(){if(true){var x;} while(true){var y;var x[2];}}", 0, 0, api.ErrName)
	refuses(t, "proc main(){x=1;var x;var x;}", 0, 0, api.ErrName)
	takes(t, "proc main(){var main; var f; f(f); } proc f(int f){}")
	takes(t, "proc main(){var x;} proc f(int x){} proc g(){var x[2];}")
}

func TestCheckInOrder(t *testing.T) { // P4.1: procedure by procedure, mark by mark
	refuses(t, "proc f(){x=1;} proc main(){y=1;}", 0, 1, api.ErrName)
	refuses(t, "proc f(){x=1;} proc main(){var x;var x;}", 0, 1, api.ErrName)
	refuses(t, "proc f() int {} proc main(){x=1;}", 0, 1, api.ErrReturn)
	refuses(t, "proc f() int {return 1;} proc main(){x=1;}", 1, 1, api.ErrName)
	refuses(t, "proc main(){} proc f() int {x=1;}", 1, 1, api.ErrName)
	refuses(t, "proc main(){print true+1;x=1;}", 0, 1, api.ErrType)
	refuses(t, "proc main(){if(1){x=1;}}", 0, 1, api.ErrType)
	refuses(t, "proc main(){if(true){print 1;x=1;}else{print 1+true;}}", 0, 3, api.ErrName)
	refuses(t, "proc main(){if(true){print 1;print 2;}else{print 1+true;x=1;}}", 0, 4, api.ErrType)
	refuses(t, "proc main(){if(true){while(true){print 1;}}else{while(true){}}print x;}", 0, 5, api.ErrName)
	refuses(t, "proc main(){return;x=1;}", 0, 2, api.ErrName)
}

// world is what a statement is put into: the mark 6 is behind the variables.
const world = "proc main(){var i;var bool b;var a[2];if(b){var gone;}%} proc f(int x,bool y) int {return 1;} proc g() bool {return true;} proc h(){}"

func TestCheckStatements(t *testing.T) { // P4.2
	for s, want := range map[string]api.Errno{
		"var v;":                      api.OK,
		"var bool v;":                 api.OK,
		"var v[1];":                   api.OK,
		"var v[64];":                  api.OK,
		"var v[65];":                  api.ErrLong,
		"var v[9223372036854775807];": api.ErrLong,

		"i=1;":         api.OK,
		"b=true;":      api.OK,
		"i=true;":      api.ErrType,
		"b=1;":         api.ErrType,
		"a=1;":         api.ErrType,
		"none=1;":      api.ErrName,
		"gone=1;":      api.ErrName,
		"none=a;":      api.ErrName,
		"a=none;":      api.ErrType,
		"i=none;":      api.ErrName,
		"i=a;":         api.ErrType,
		"b=none==1;":   api.ErrName,
		"i=1+none[2];": api.ErrName,

		"a[0]=1;":          api.OK,
		"a[2]=1;":          api.OK,
		"a[a[i]]=a[1];":    api.OK,
		"none[true]=b;":    api.ErrName,
		"i[none]=1;":       api.ErrType,
		"b[0]=none;":       api.ErrType,
		"a[none]=a;":       api.ErrName,
		"a[a]=none;":       api.ErrType,
		"a[true]=none;":    api.ErrType,
		"a[1]=none;":       api.ErrName,
		"a[1]=a;":          api.ErrType,
		"a[1]=true;":       api.ErrType,
		"a[none==b]=true;": api.ErrName,

		"if(b){}":            api.OK,
		"if(i<1){}else{}":    api.OK,
		"if(i){}":            api.ErrType,
		"if(none){}":         api.ErrName,
		"if(a){}":            api.ErrType,
		"while(b){}":         api.OK,
		"while(i){}":         api.ErrType,
		"while(none==1){}":   api.ErrName,
		"assert b;":          api.OK,
		"assert 1;":          api.ErrType,
		"assert ! none;":     api.ErrName,
		"assert true==1;":    api.ErrType,
		"print i;":           api.OK,
		"print b;":           api.OK,
		"print a;":           api.ErrType,
		"print a[b];":        api.ErrType,
		"print none;":        api.ErrName,
		"print gone;":        api.ErrName,
		"print f;":           api.ErrName,
		"read i;":            api.OK,
		"read b;":            api.ErrType,
		"read a;":            api.ErrType,
		"read none;":         api.ErrName,
		"read gone;":         api.ErrName,
		"h();":               api.OK,
		"f(1,true);":         api.OK,
		"f(i,b);":            api.OK,
		"i=f(i,b);":          api.OK,
		"b=g();":             api.OK,
		"g();":               api.OK,
		"main();":            api.OK,
		"none(none);":        api.ErrName,
		"none=none(a);":      api.ErrName,
		"i(1);":              api.ErrName,
		"h(1);":              api.ErrType,
		"h(none);":           api.ErrType,
		"f();":               api.ErrType,
		"none=f(none);":      api.ErrType,
		"f(1,true,none);":    api.ErrType,
		"f(none,1);":         api.ErrName,
		"f(true,none);":      api.ErrType,
		"f(1,none);":         api.ErrName,
		"f(1,1);":            api.ErrType,
		"f(a,true);":         api.ErrType,
		"a=f(none,true);":    api.ErrName,
		"none=f(true,true);": api.ErrType,
		"none=f(1,true);":    api.ErrName,
		"gone=f(1,true);":    api.ErrName,
		"a=f(1,true);":       api.ErrType,
		"b=f(1,true);":       api.ErrType,
		"i=g();":             api.ErrType,
		"i=h();":             api.ErrType,
		"none=h();":          api.ErrName,
		"return;":            api.OK,
		"return 1;":          api.ErrType,
		"return none;":       api.ErrType,
		"return a;":          api.ErrType,
	} {
		source := strings.ReplaceAll(world, "%", s)
		if want == api.OK {
			takes(t, source)
		} else {
			refuses(t, source, 0, 6, want)
		}
	}
}

func TestCheckReturns(t *testing.T) { // P4.2: return; each way returns
	for s, want := range map[string]api.Errno{
		"return 1;":                          api.OK,
		"return a;":                          api.OK,
		"return a;return a;":                 api.OK,
		"return a;print a;":                  api.OK,
		"if(true){return 1;}else{return 2;}": api.OK,
		"if(true){return 1;}else{return 2;}print a;": api.OK,
		"if(a<1){}return a;":                         api.OK,
		"while(a<1){}return a;":                      api.OK,
		"if(a<1){if(a<0){return 1;}else{print a;return 2;}}else{if(a<2){return 3;}else{return 4;}}": api.OK,

		"return ;":        api.ErrType,
		"return true;":    api.ErrType,
		"return none;":    api.ErrName,
		"return a[none];": api.ErrType,
	} {
		source := "proc main(){} proc f(int a) int {" + s + "}"
		if want == api.OK {
			takes(t, source)
		} else {
			refuses(t, source, 1, 1, want)
		}
	}
	for s, mark := range map[string]int{
		"":                                 1,
		"print a;":                         2,
		"if(a<1){return 1;}":               3,
		"if(a<1){}else{return 1;}":         3,
		"while(true){return 1;}":           3,
		"if(a<1){return 1;}else{}print 1;": 4,
		"if(a<1){if(a<0){return 1;}}else{return 2;}":                 5,
		"if(a<1){return 2;}else{if(a<0){}else{return 1;}}":           5,
		"if(a<1){return 2;}else{while(a<0){return 3;}}":              5,
		"if(a<1){return 2;}else{print 1;} if(a<1){}else{return 2;}":  6,
		"while(a<1){if(a<1){return 1;}else{return 1;}}":              5,
		"while(a<1){return 1;} if(a<1){while(a<1){return 1;}}else{}": 6,
	} {
		refuses(t, "proc main(){} proc f(int a) int {"+s+"}", 1, mark, api.ErrReturn)
		takes(t, "proc main(){} proc f(int a) {"+strings.NewReplacer("return 1;", "return;", "return 2;", "return;", "return 3;", "return;").Replace(s)+"}")
	}
}
