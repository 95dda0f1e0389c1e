package gen_test

import (
	"reflect"
	"slices"
	"strconv"
	"strings"
	"testing"

	"parallax/api"
	"parallax/check"
	"parallax/code"
	"parallax/gen"
	"parallax/live"
	"parallax/syntax"
	"parallax/vm"
)

// program is the one of a source.
func program(t *testing.T, s string) api.Prog {
	t.Helper()
	p, at, e := syntax.Parse(s)
	if e != api.OK {
		t.Fatalf("%q is not read at %d: %d", s, at, e)
	}
	return p
}

// build is a program's, of which it is asked that there is one, and that its codes are sound.
func build(t *testing.T, p api.Prog, keep []gen.Keep, plain bool) gen.Build {
	t.Helper()
	b, at, e := gen.Compile(p, keep, plain)
	if e != api.OK || at != (check.Place{}) {
		t.Fatalf("Compile, plain %v: %v, %d", plain, at, e)
	}
	if !code.Sound(b.Codes, b.Main) { // P11.6
		t.Fatalf("codes that are not sound, plain %v:\n%s", plain, printed(b))
	}
	return b
}

// printed are the codes of a build.
func printed(b gen.Build) string {
	var s []string
	for _, c := range b.Codes {
		s = append(s, code.Print(c))
	}
	return strings.Join(s, "\n")
}

// start is a machine, of which it is asked that there is one.
func start(t *testing.T, b gen.Build, input []int64, fuel int) *vm.Machine {
	t.Helper()
	m, e := gen.Start(b, input, fuel)
	if e != api.OK {
		t.Fatalf("Start(%v, %d): %d", input, fuel, e)
	}
	return m
}

// seen are events, in words.
func seen(l []api.Event) string {
	var s []string
	for _, e := range l {
		x := []string{"?", "print", "read", "end", "trap", "fuel"}[e.Kind]
		if e.Kind <= api.EvRead || e.Kind == api.EvTrap || e.N != 0 {
			x += " " + strconv.FormatInt(e.N, 10)
		}
		s = append(s, x)
	}
	return strings.Join(s, ", ")
}

// gone are the marks that a machine goes through, in words, and its events.
func gone(m *vm.Machine) (string, string) {
	var s []string
	for m.Step() {
		tick, _ := m.Tick()
		s = append(s, strconv.Itoa(tick.Mark))
	}
	return strings.Join(s, " "), seen(m.Events())
}

// runs asks for the events of a program, plain and lean.
func runs(t *testing.T, s string, input []int64, want string) {
	t.Helper()
	for _, plain := range []bool{true, false} {
		b := build(t, program(t, s), nil, plain)
		if _, got := gone(start(t, b, input, api.MaxFuel)); got != want {
			t.Errorf("%q of %v, plain %v: %s; want %s\n%s", s, input, plain, got, want, printed(b))
		}
	}
}

func TestExample(t *testing.T) { // the chapter's
	p := program(t, "proc main ( ) { var x ; read x ; print x / 0 ; }")
	for _, plain := range []bool{true, false} {
		m := start(t, build(t, p, nil, plain), []int64{5}, 100)
		if marks, events := gone(m); marks != "0 1 2 3" || events != "read 5, trap 1" {
			t.Errorf("plain %v: %s, %s", plain, marks, events)
		}
	}
}

// has asks for the code of main, its lines parted by commas.
func has(t *testing.T, s string, plain bool, want string) {
	t.Helper()
	p := program(t, s)
	b := build(t, p, nil, plain)
	var l []string
	for _, i := range b.Codes[b.Main].Ins {
		line, _ := code.Text(i)
		l = append(l, line)
	}
	if got := strings.Join(l, ", "); got != want {
		t.Errorf("%q, plain %v: %s; want %s", s, plain, got, want)
	}
}

func TestCodes(t *testing.T) { // a plain build does what the statements say, one by one; a lean one does less
	s := "proc main(){var x;x=2;x=1+x*3;if(x==7){print -1;}else{print x;}}"
	has(t, s, true, "mark 0 1, mark 1 2, push 0, store 0, mark 2 2, push 2, store 0, mark 3 2, push 1, load 0, push 3, mul, add, store 0, "+
		"mark 4 2, load 0, push 7, same, zero 24, mark 5 2, push 1, neg, print, jump 27, mark 6 2, load 0, print, mark 7 3, leave 0")
	has(t, s, false, "mark 0 1, mark 1 2, mark 2 2, push 2, store 0, mark 3 2, push 7, store 0, mark 4 2, mark 5 2, push -1, print, mark 7 3, leave 0")
	s = "proc main(){var x;var bool b;read x;b=x<1||x==5;while(b&&x!=3){x=x/1;} var a[3];a[0]=x;x=a[1];}"
	has(t, s, true, "mark 0 1, mark 1 2, push 0, store 0, mark 2 2, push 0, store 1, mark 3 2, read, store 0, mark 4 2, load 0, push 1, less, zero 17, push 1, jump 20, load 0, push 5, same, store 1, "+
		"mark 5 2, load 1, zero 29, load 0, push 3, same, not, jump 30, push 0, zero 37, mark 6 2, load 0, push 1, div, store 0, jump 21, "+
		"mark 7 2, clear 2 3, mark 8 2, push 0, load 0, put 2 3, mark 9 2, push 1, index 2 3, store 0, mark 10 3, leave 0")
	has(t, "proc main(){var x;var y;read x;y=x*2;x=f(x);y=y/x;f(1);} proc f(int a) int {return 9;}", false,
		"mark 0 1, mark 1 2, mark 2 2, mark 3 2, read, store 0, mark 4 2, load 0, push 2, mul, store 1, mark 5 2, load 0, call 1 1, store 0, mark 6 2, load 1, load 0, div, drop, mark 7 2, push 1, call 1 1, drop, mark 8 3, leave 0")
	has(t, "proc main(){var x;var y;read x;read y;y=x*2-x;print x;}", false, "mark 0 1, mark 1 2, mark 2 2, mark 3 2, read, store 0, mark 4 2, read, drop, mark 5 2, mark 6 2, load 0, print, mark 7 3, leave 0")
}

// others are procedures that programs call.
const others = `
proc add(int a,int b) int {return a+b;}
proc say(int a,int b,int c){print a;print b;print c;}
proc eight(int a,int b,int c,int d,bool e,bool f,int g,int h) int {if(e&&!f){return a-b-c-d-g-h;} return 0;}
proc less(int a,int b) bool {return a<b;}
proc fib(int n) int {var x;var y;if(n<2){return n;} x=fib(n-1);y=fib(n-2);return x+y;}
proc even(int n) bool {var bool r;if(n==0){return true;} r=odd(n-1);return r;}
proc odd(int n) bool {var bool r;if(n==0){return false;} r=even(n-1);return r;}
proc down(int n){if(0<n){down(n-1);}else{print n;}}
proc change(int x){x=x+1;print x;}
proc nothing(){}
proc early(int n) int {while(n<10){if(n==3){n=n+100;return n;}n=n+1;}return n;}`

func TestStatements(t *testing.T) { // W1, P11.2: what each statement does
	for s, want := range map[string]string{
		"": "end",
		"print 1+2*3;print 7-2-3;print 7/2;print -7/2;print -7%2;print -(3);":              "print 7, print 2, print 3, print -3, print -1, print -3, end",
		"print 1<2;print 2<1;print 2<=2;print 3<=2;print 1==1;print 1!=1;print 1!=2;":      "print 1, print 0, print 1, print 0, print 1, print 0, print 1, end",
		"print true&&false;print true&&true;print false||true;print false||false;":         "print 0, print 1, print 1, print 0, end",
		"print !true;print !false;print true==false;print true!=false;":                    "print 0, print 1, print 0, print 1, end",
		"var x;read x;print x+2*3;print x-2-3;print x/2;print -x/2;print x%4;print -x%4;":  "read 11, print 17, print 6, print 5, print -5, print 3, print -3, end",
		"var x;read x;print x<12;print x<11;print x<=11;print x<=10;print x==11;":          "read 11, print 1, print 0, print 1, print 0, print 1, end",
		"var x;read x;print x!=11;print x!=1;print 12<x;print 11<=x;":                      "read 11, print 0, print 1, print 0, print 1, end",
		"var x;read x;print x==11&&x<1;print x==11&&x<20;print x<1||x==11;print x<1||x<2;": "read 11, print 0, print 1, print 1, print 0, end",
		"var x;read x;print !(x==11);print !(x<1)&&!(x<2)&&(x<3||x<12);":                   "read 11, print 0, print 1, end",
		"var x;read x;print (x==11)==(x<1);print (x==11)!=(x<1);":                          "read 11, print 0, print 1, end",
		"print 9223372036854775807+1;print (-9223372036854775807-1)/(0-1);":                "print -9223372036854775808, print -9223372036854775808, end",
		"var x;x=9223372036854775807;print x+1;print -x-1;print -(-x-1);":                  "print -9223372036854775808, print -9223372036854775808, print -9223372036854775808, end",
		"var x;print x;x=3;x=x*x;print x;":                                                 "print 0, print 9, end",
		"var bool b;print b;b=!b;print b;":                                                 "print 0, print 1, end",
		"var a[3];a[2]=5;a[a[2]-4]=a[2]+1;print a[0];print a[1];print a[2];":               "print 0, print 6, print 5, end",
		"var i;while(i<3){var x;x=x+1;print x;i=i+1;}":                                     "print 1, print 1, print 1, end",
		"var i;while(i<2){var a[2];a[i]=a[0]+a[1]+1;print a[i];i=i+1;}":                    "print 1, print 1, end",
		"var i;while(i<2){var bool b;if(b){print 9;} b=true;i=i+1;}":                       "end",
		"var x;read x;print x;read x;print x;":                                             "read 11, print 11, read 12, print 12, end",
		"var x;read x;read x;print x;":                                                     "read 11, read 12, print 12, end",
		"assert 1<2;print 1;":                                                              "print 1, end",
		"print 1;return;print 2;":                                                          "print 1, end",
		"var x;x=add(2,3);print x;add(4,5);print x;":                                       "print 5, print 5, end",
		"var x;x=1;x=add(x,x+1);print x;x=add(x,x);print x;":                               "print 3, print 6, end",
		"var x;x=eight(100,1,2,3,true,false,4,5);print x;":                                 "print 85, end",
		"var bool b;b=less(1,2);print b;b=less(2,1);print b;":                              "print 1, print 0, end",
		"var x;x=fib(15);print x;":                                                         "print 610, end",
		"var bool b;b=even(10);print b;b=even(7);print b;":                                 "print 1, print 0, end",
		"say(1,2,3);say(3,2,1);":                                                           "print 1, print 2, print 3, print 3, print 2, print 1, end",
		"var x;x=1;change(x);print x;":                                                     "print 2, print 1, end",
		"if(false&&1/0==1){print 1;} if(true||1/0==1){print 2;}":                           "print 2, end",
		"var x;if(x==1&&1/x==1){print 1;} if(x==0||1/x==1){print 2;}":                      "print 2, end",
		"down(48);print 1;":                                                            "print 0, print 1, end",
		"var x;x=early(3);print x;x=early(30);print x;":                                "print 103, print 30, end",
		"var i;while(true){i=i+1;if(i==3){say(i,i,i);return;}}":                        "print 3, print 3, print 3, end",
		"if(true){}else{print 1;} if(false){print 2;}else{} if(true){} while(false){}": "end",
		"var x;read x;if(x<1){}else{print 1;} if(x<1){print 2;}else{} if(x<1){}else{}": "read 11, print 1, end",
		"var a[64];var i;while(i<64){a[i]=i;i=i+1;} print a[63]-a[0];":                 "print 63, end",
	} {
		runs(t, "proc main(){"+s+"}"+others, []int64{11, 12}, want)
	}
}

func TestPrograms(t *testing.T) { // W1: whole programs
	for _, c := range []struct {
		source string
		input  []int64
		want   string
	}{
		{"proc main(){var x;var y;read x;read y;while(y!=0){var z;z=x%y;x=y;y=z;}print x;}", []int64{84, 36}, "read 84, read 36, print 12, end"},
		{"proc main(){var x;x=6;while(x!=1){print x;if(x%2==0){x=x/2;}else{x=3*x+1;}}}", nil, "print 6, print 3, print 10, print 5, print 16, print 8, print 4, print 2, end"},
		{"proc main(){var a[4];var i;while(i<4){var x;read x;a[i]=x;i=i+1;} i=0;while(i<3){var k;k=i+1;while(k<4){if(a[k]<a[i]){var h;h=a[i];a[i]=a[k];a[k]=h;}k=k+1;}i=i+1;} i=0;while(i<4){print a[i];i=i+1;}}",
			[]int64{3, -1, 9, 0}, "read 3, read -1, read 9, read 0, print -1, print 0, print 3, print 9, end"},
		{"proc prime(int n) bool {var d;d=2;while(d*d<=n){if(n%d==0){return false;}d=d+1;}return 1<n;} proc main(){var n;while(n<20){var bool p;p=prime(n);if(p){print n;}n=n+1;}}",
			nil, "print 2, print 3, print 5, print 7, print 11, print 13, print 17, print 19, end"},
		{"proc move(int n,int a,int b,int c){if(0<n){move(n-1,a,c,b);print 10*a+b;move(n-1,c,b,a);}} proc main(){move(3,1,2,3);}",
			nil, "print 12, print 13, print 23, print 12, print 31, print 32, print 12, end"},
		{"proc power(int b,int n) int {var h;if(n==0){return 1;} h=power(b,n/2);if(n%2==0){return h*h;} return b*h*h;} proc main(){var x;x=power(3,13);print x;x=power(-2,63);print x;}",
			nil, "print 1594323, print -9223372036854775808, end"},
		{"proc main(){var n;var sum;read n;while(n!=0){sum=sum+n;read n;}print sum;}", []int64{5, 6, -1, 0, 7}, "read 5, read 6, read -1, read 0, print 10, end"},
	} {
		runs(t, c.source, c.input, c.want)
	}
}

func TestTraps(t *testing.T) { // W2, P11.2: where they must fall, whether anybody needs what is reckoned or not
	for s, want := range map[string][2]string{
		"print 1/0;":                                {"0 1", "trap 1"},
		"var x;print 1;x=1%x;print 2;":              {"0 1 2 3", "print 1, trap 1"},
		"var x;x=1/0;":                              {"0 1 2", "trap 1"},
		"var x;x=1;x=x/(x-1);x=3;print x;":          {"0 1 2 3", "trap 1"},
		"var x;var y;read x;y=0*(1/(x-11));":        {"0 1 2 3 4", "read 11, trap 1"},
		"var x;var a[2];x=a[2];":                    {"0 1 2 3", "trap 2"},
		"var a[2];print a[1];print a[2];":           {"0 1 2 3", "print 0, trap 2"},
		"var a[2];print a[-1];":                     {"0 1 2", "trap 2"},
		"var a[2];a[2]=1;":                          {"0 1 2", "trap 2"},
		"var a[2];a[-1]=1;print 1;":                 {"0 1 2", "trap 2"},
		"var a[2];a[2]=1/0;":                        {"0 1 2", "trap 1"},
		"var a[2];a[1/0]=a[2];":                     {"0 1 2", "trap 1"},
		"var a[2];a[a[2]]=1/0;":                     {"0 1 2", "trap 2"},
		"var a[2];print 1/0+a[2];":                  {"0 1 2", "trap 1"},
		"var a[2];print a[2]+1/0;":                  {"0 1 2", "trap 2"},
		"var a[2];print a[2]==1&&1/0==1;":           {"0 1 2", "trap 2"},
		"var a[2];print 1/0==1||a[2]==1;":           {"0 1 2", "trap 1"},
		"if(1/0==1){print 1;}else{print 2;}":        {"0 1", "trap 1"},
		"var x;if(1/x==1){}else{} print 1;":         {"0 1 2", "trap 1"},
		"while(1/0==1){print 1;}":                   {"0 1", "trap 1"},
		"assert 1/0==1;":                            {"0 1", "trap 1"},
		"assert 1<2;assert 2<1;print 2;":            {"0 1 2", "trap 3"},
		"var x;read x;assert x==11;assert x==12;":   {"0 1 2 3 4", "read 11, trap 3"},
		"var x;read x;read x;read x;print x;":       {"0 1 2 3 4", "read 11, read 12, trap 5"},
		"var x;x=add(1/0,2);":                       {"0 1 2", "trap 1"},
		"var a[1];say(a[0],a[1],1/0);":              {"0 1 2", "trap 2"},
		"var a[1];say(a[0],1/0,a[1]);":              {"0 1 2", "trap 1"},
		"var x;x=divide(1,0);":                      {"0 1 2 0 1", "trap 1"},
		"while(true){divide(1,0);}":                 {"0 1 2 0 1", "trap 1"},
		"if(false&&1/0==1){} print 1;return;":       {"0 1 2 3 4", "print 1, end"},
		"var x;x=5*(2/1);x=x-x;":                    {"0 1 2 3 4", "end"},
		"var x;read x;if(x<1){print 1/0;} print 2;": {"0 1 2 3 5 6", "read 11, print 2, end"},
	} {
		p := program(t, "proc main(){"+s+"}"+others+" proc divide(int a,int b) int {return a/b;}")
		for _, plain := range []bool{true, false} {
			b := build(t, p, nil, plain)
			if marks, events := gone(start(t, b, []int64{11, 12}, 999)); marks != want[0] || events != want[1] {
				t.Errorf("%q, plain %v: %s, %s; want %v\n%s", s, plain, marks, events, want, printed(b))
			}
		}
	}
}

func TestDepthAndFuel(t *testing.T) { // P11.2: the ends that hang on limits
	runs(t, "proc main(){main();}", nil, "trap 4")
	runs(t, "proc main(){f(49);} proc f(int n){if(1<n){f(n-1);}}", nil, "end")
	runs(t, "proc main(){f(50);} proc f(int n){if(1<n){f(n-1);}}", nil, "trap 4")
	runs(t, "proc main(){f(49,1);} proc f(int n,int k){if(1<n){f(n-1,1);}else{f(1,1/0);}}", nil, "trap 1")
	runs(t, "proc main(){while(true){}}", nil, "fuel")
	p := program(t, "proc main(){var x;print 1;x=f();print x;} proc f() int {print 3;return 4;}")
	for fuel, want := range []string{"fuel", "fuel", "fuel", "print 1, fuel", "print 1, fuel", "print 1, fuel", "print 1, print 3, fuel", "print 1, print 3, fuel",
		"print 1, print 3, fuel", "print 1, print 3, print 4, fuel", "print 1, print 3, print 4, end", "print 1, print 3, print 4, end"} {
		for _, plain := range []bool{true, false} {
			m := start(t, build(t, p, nil, plain), nil, fuel)
			if _, events := gone(m); events != want || m.Ticks() != min(fuel, 10) {
				t.Errorf("fuel %d, plain %v: %s behind %d ticks; want %s", fuel, plain, events, m.Ticks(), want)
			}
		}
	}
}

func TestCompileErrors(t *testing.T) { // P11.1: Check's error and place
	for s, want := range map[string]struct {
		check.Place
		api.Errno
	}{
		"":                                   {check.Place{}, api.ErrMain},
		"proc main(int a){}":                 {check.Place{}, api.ErrMain},
		"proc main(){var x;x=true;}":         {check.Place{Proc: 0, Mark: 2}, api.ErrType},
		"proc main(){if(true){var x;} x=1;}": {check.Place{Proc: 0, Mark: 3}, api.ErrName},
		"proc main(){} proc f() int {if(true){}}":       {check.Place{Proc: 1, Mark: 2}, api.ErrReturn},
		"proc main(){} proc f(){print 1;var a[65];}":    {check.Place{Proc: 1, Mark: 2}, api.ErrLong},
		"proc main(){} proc f(){} proc f(){}":           {check.Place{}, api.ErrName},
		"proc main(){} proc f(int a){} proc g(){f(1);}": {check.Place{}, api.OK},
		"proc main(){} proc f(int a){} proc g(){f();}":  {check.Place{Proc: 2, Mark: 1}, api.ErrType},
	} {
		for _, plain := range []bool{true, false} {
			b, at, e := gen.Compile(program(t, s), []gen.Keep{{Proc: "main", Var: "x"}}, plain)
			if at != want.Place || e != want.Errno || e != api.OK && !reflect.DeepEqual(b, gen.Build{}) {
				t.Errorf("Compile(%q) = %v, %v, %d; want %v", s, b, at, e, want)
			}
		}
	}
	p := api.Prog{Procs: []api.Proc{{Name: "main", Body: []api.Stmt{{Kind: 99}}}}}
	if b, at, e := gen.Compile(p, nil, false); !reflect.DeepEqual(b, gen.Build{}) || at != (check.Place{Proc: 0, Mark: 1}) || e != api.ErrForm {
		t.Errorf("Compile of no statement = %v, %v, %d", b, at, e)
	}
}

func TestBuild(t *testing.T) { // P11.1: what a build has
	p := program(t, "proc f(int a,bool b) int {var x;x=a;return x;} proc main(){var y;read y;y=f(y,true);} proc g() bool {return true;}")
	info, _, _ := check.Check(p)
	keep := []gen.Keep{{Proc: "g", Var: "y"}, {Proc: "main", Var: "y"}, {Proc: "f", Var: "b"}, {Proc: "", Var: ""}}
	names := [][]string{{"b"}, {"y"}, {"y"}}
	for _, plain := range []bool{true, false} {
		b := build(t, p, keep, plain)
		if !reflect.DeepEqual(b.Prog, p) || !reflect.DeepEqual(b.Info, info) || b.Main != 1 || b.Plain != plain || len(b.Codes) != 3 || len(b.Tables) != 3 {
			t.Errorf("plain %v: %v", plain, b)
		}
		for i, q := range p.Procs {
			if table := live.Make(q, info.Vars[i], names[i], plain); !reflect.DeepEqual(b.Tables[i], table) {
				t.Errorf("plain %v: the table %v; want %v", plain, b.Tables[i], table)
			}
			if c := b.Codes[i]; c.Params != len(q.Params) || c.Answers != (q.Type != api.None) || c.Cells < b.Tables[i].Size {
				t.Errorf("plain %v: of %s %d params, answers %v, %d cells", plain, q.Name, c.Params, c.Answers, c.Cells)
			}
		}
	}
}

func TestKeepOfNone(t *testing.T) { // P11.1: names that nothing has play no part
	p := program(t, "proc f(int a) int {var x;x=a;return a;} proc main(){var y;var z;y=f(1);read z;print z;}")
	none := []gen.Keep{{}, {Proc: "f", Var: "y"}, {Proc: "main", Var: "x"}, {Proc: "g", Var: "a"}, {Proc: "f"}, {Var: "a"}, {Proc: "f", Var: "main"}}
	for _, plain := range []bool{true, false} {
		if a, b := build(t, p, nil, plain), build(t, p, none, plain); !reflect.DeepEqual(a, b) {
			t.Errorf("plain %v: %v; want %v", plain, b, a)
		}
		twice := []gen.Keep{{Proc: "f", Var: "x"}, {Proc: "f", Var: "x"}}
		if a, b := build(t, p, twice[:1], plain), build(t, p, append(twice, none...), plain); !reflect.DeepEqual(a, b) {
			t.Errorf("plain %v: %v; want %v", plain, b, a)
		}
	}
}

func TestStart(t *testing.T) { // P11.1: as New
	b := build(t, program(t, "proc main(){var x;read x;print x;}"), nil, false)
	input := make([]int64, api.MaxInput+1)
	for _, c := range []struct {
		input []int64
		fuel  int
		want  api.Errno
	}{
		{nil, 0, api.OK}, {input[:api.MaxInput], api.MaxFuel, api.OK}, {input, 9, api.ErrArg}, {nil, -1, api.ErrArg}, {nil, api.MaxFuel + 1, api.ErrArg},
	} {
		m, e := gen.Start(b, c.input, c.fuel)
		if e != c.want || (m != nil) != (e == api.OK) {
			t.Errorf("Start(%d numbers, %d): %v, %d", len(c.input), c.fuel, m, e)
		}
	}
	if m, e := gen.Start(gen.Build{}, nil, 9); m != nil || e != api.ErrCode {
		t.Errorf("Start of no build: %v, %d", m, e)
	}
	b.Main = 1
	if m, e := gen.Start(b, input, -1); m != nil || e != api.ErrCode {
		t.Errorf("Start of another main: %v, %d", m, e)
	}
	b.Main = 0
	input[0] = 7
	m := start(t, b, input[:1], 9)
	input[0], b.Codes[0].Ins[0] = 8, api.Ins{}
	if _, events := gone(m); events != "read 7, print 7, end" {
		t.Errorf("what was handed in is kept: %s", events)
	}
}

func TestNothingIsShared(t *testing.T) { // rule 3: what is answered is new memory
	source := "proc f(int a) int {if(a<1){return -a+1;}else{a=a/2;} return a;} proc main(){var y[3];y[1+1]=2;var z;z=f(y[2]);print z;}"
	p, q := program(t, source), program(t, source)
	keep := []gen.Keep{{Proc: "f", Var: "a"}}
	for _, plain := range []bool{true, false} {
		b, want := build(t, p, keep, plain), build(t, q, []gen.Keep{{Proc: "f", Var: "a"}}, plain)
		if !reflect.DeepEqual(p, q) || keep[0] != (gen.Keep{Proc: "f", Var: "a"}) {
			t.Fatalf("%v, %v were changed", p, keep)
		}
		p.Procs[0].Params[0].Name, p.Procs[0].Name, p.Procs[0].Body[0].E[0].L[0].Name = "b", "g", "c"
		p.Procs[0].Body[0].Body[0].E[0].L[1].Num, p.Procs[0].Body[0].Else[0].Kind, p.Procs[1].Body[1].E[0].L[1].Num = 9, 77, 5
		keep[0].Var = "b"
		if !reflect.DeepEqual(b, want) {
			t.Errorf("plain %v: a build changes with its program", plain)
		}
		p, keep = program(t, source), []gen.Keep{{Proc: "f", Var: "a"}}
	}
	b := build(t, p, nil, true)
	m := start(t, b, nil, 99)
	for range 4 {
		m.Step()
	}
	l, _ := gen.Value(b, m, 0, 0)
	l[0] = 77
	_ = append(l, 88)
	if again, e := gen.Value(b, m, 0, 0); !slices.Equal(again, []int64{0, 0, 2}) || e != api.OK {
		t.Errorf("a value that was told: %v, %d", again, e)
	}
}
