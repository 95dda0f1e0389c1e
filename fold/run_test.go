package fold_test

import (
	"reflect"
	"strconv"
	"strings"
	"testing"

	"parallax/api"
	"parallax/fold"
)

// shown is a history in words: of each tick kind, procedure, mark, depth, count of events and frames (procedure:mark and the values).
func shown(h fold.History) string {
	var b strings.Builder
	for _, x := range h.Pos {
		b.WriteString([]string{"?", "enter", "stmt", "leave"}[x.Tick.Kind] + " " + strconv.Itoa(x.Tick.Proc) + "." + strconv.Itoa(x.Tick.Mark))
		b.WriteString(" deep " + strconv.Itoa(x.Tick.Depth) + " at " + strconv.Itoa(x.Count) + " |")
		for _, f := range x.Frames {
			b.WriteString(" " + strconv.Itoa(f.Proc) + "." + strconv.Itoa(f.Mark))
			for _, v := range f.Vals {
				b.WriteString(" " + numbers(v))
			}
			b.WriteString(" |")
		}
		b.WriteString("\n")
	}
	return b.String()
}

func numbers(l []int64) string {
	var s []string
	for _, n := range l {
		s = append(s, strconv.FormatInt(n, 10))
	}
	return strings.Join(s, ",")
}

// events are a history's, in words.
func events(h fold.History) string {
	var s []string
	for _, e := range h.Events {
		x := []string{"?", "print", "read", "end", "trap", "fuel"}[e.Kind]
		if e.Kind <= api.EvRead || e.Kind == api.EvTrap {
			x += " " + strconv.FormatInt(e.N, 10)
		} else if e.N != 0 {
			x += "?"
		}
		s = append(s, x)
	}
	return strings.Join(s, ", ")
}

// runs asks for the events of a run.
func runs(t *testing.T, s string, input []int64, fuel int, want string) fold.History {
	t.Helper()
	h, e := fold.Run(program(t, s), input, fuel)
	if events(h) != want || e != api.OK {
		t.Errorf("Run(%q, %v, %d) = %q, %d; want %q", s, input, fuel, events(h), e, want)
	}
	return h
}

// ticks asks for all that is told at the ticks of a run.
func ticks(t *testing.T, s string, input []int64, fuel int, want string, rows ...string) {
	t.Helper()
	h := runs(t, s, input, fuel, want)
	if got := shown(h); got != strings.Join(append(rows, ""), "\n") {
		t.Errorf("Run(%q, %v, %d) has the ticks\n%s", s, input, fuel, got)
	}
}

func TestRunTicks(t *testing.T) { // P5.8: ticks, counts and frames, by hand
	ticks(t, "proc main(){}", nil, 9, "end", "enter 0.0 deep 1 at 0 | 0.0 |", "leave 0.1 deep 1 at 0 | 0.1 |")
	ticks(t, "proc main(){print 1;}", nil, 9, "print 1, end",
		"enter 0.0 deep 1 at 0 | 0.0 |", "stmt 0.1 deep 1 at 0 | 0.1 |", "leave 0.2 deep 1 at 1 | 0.2 |")
	ticks(t, "proc main(){var x;x=4;print x;var a[2];a[1]=x;}", nil, 9, "print 4, end",
		"enter 0.0 deep 1 at 0 | 0.0 0 0,0 |", "stmt 0.1 deep 1 at 0 | 0.1 0 0,0 |", "stmt 0.2 deep 1 at 0 | 0.2 0 0,0 |",
		"stmt 0.3 deep 1 at 0 | 0.3 4 0,0 |", "stmt 0.4 deep 1 at 1 | 0.4 4 0,0 |", "stmt 0.5 deep 1 at 1 | 0.5 4 0,0 |", "leave 0.6 deep 1 at 1 | 0.6 4 0,4 |")
	ticks(t, "proc f(int n,bool b) int {if(b){var y;y=n;return y+1;} return 7;} proc main(){var x;x=f(5,true);print x;}", nil, 99, "print 6, end",
		"enter 1.0 deep 1 at 0 | 1.0 0 |", "stmt 1.1 deep 1 at 0 | 1.1 0 |", "stmt 1.2 deep 1 at 0 | 1.2 0 |",
		"enter 0.0 deep 2 at 0 | 1.2 0 | 0.0 5 1 0 |", "stmt 0.1 deep 2 at 0 | 1.2 0 | 0.1 5 1 0 |", "stmt 0.2 deep 2 at 0 | 1.2 0 | 0.2 5 1 0 |",
		"stmt 0.3 deep 2 at 0 | 1.2 0 | 0.3 5 1 0 |", "stmt 0.4 deep 2 at 0 | 1.2 0 | 0.4 5 1 5 |", "leave 0.6 deep 2 at 0 | 1.2 0 | 0.6 5 1 5 |",
		"stmt 1.3 deep 1 at 0 | 1.3 6 |", "leave 1.4 deep 1 at 1 | 1.4 6 |")
	ticks(t, "proc main(){var x;while(x<2){var y;y=y+1;read x;}}", []int64{-3, 2}, 99, "read -3, read 2, end",
		"enter 0.0 deep 1 at 0 | 0.0 0 0 |", "stmt 0.1 deep 1 at 0 | 0.1 0 0 |",
		"stmt 0.2 deep 1 at 0 | 0.2 0 0 |", "stmt 0.3 deep 1 at 0 | 0.3 0 0 |", "stmt 0.4 deep 1 at 0 | 0.4 0 0 |", "stmt 0.5 deep 1 at 0 | 0.5 0 1 |",
		"stmt 0.2 deep 1 at 1 | 0.2 -3 1 |", "stmt 0.3 deep 1 at 1 | 0.3 -3 1 |", "stmt 0.4 deep 1 at 1 | 0.4 -3 0 |", "stmt 0.5 deep 1 at 1 | 0.5 -3 1 |",
		"stmt 0.2 deep 1 at 2 | 0.2 2 1 |", "leave 0.6 deep 1 at 2 | 0.6 2 1 |")
}

func TestRunMarks(t *testing.T) { // P5.8: which marks are gone through
	for s, want := range map[string]string{
		"if(true){print 1;}else{print 2;print 3;} print 4;":          "0 1 2 5 6",
		"if(false){print 1;}else{print 2;print 3;} print 4;":         "0 1 3 4 5 6",
		"if(false){print 1;} print 2;":                               "0 1 3 4",
		"if(true){} print 2;":                                        "0 1 2 3",
		"while(false){print 1;print 2;} print 3;":                    "0 1 4 5",
		"var x;while(x<2){x=x+1;} print 3;":                          "0 1 2 3 2 3 2 4 5",
		"var x;while(x<1){if(x==0){x=1;}else{x=5;}}":                 "0 1 2 3 4 2 6",
		"if(true){if(false){print 1;}else{if(true){print 2;}}} h();": "0 1 2 4 5 6 0 1 7",
		"if(true){return;print 1;} print 2;":                         "0 1 2 5",
		"while(true){while(true){return;}}":                          "0 1 2 3 4",
		"h();h();":                                                   "0 1 0 1 2 0 1 3",
		"return;":                                                    "0 1 2",
	} {
		h := runs(t, "proc main(){"+s+"} proc h(){}", nil, 99, events(mustRun(t, "proc main(){"+s+"} proc h(){}")))
		var got []string
		for _, x := range h.Pos {
			got = append(got, strconv.Itoa(x.Tick.Mark))
		}
		if strings.Join(got, " ") != want {
			t.Errorf("%q goes through %v; want %s", s, got, want)
		}
	}
}

func mustRun(t *testing.T, s string) fold.History {
	t.Helper()
	h, e := fold.Run(program(t, s), nil, 99)
	if e != api.OK || len(h.Events) == 0 || h.Events[len(h.Events)-1].Kind != api.EvEnd {
		t.Fatalf("Run(%q) = %q, %d", s, events(h), e)
	}
	return h
}

func TestRunStatements(t *testing.T) { // P5.8, W1: what each statement does
	for s, want := range map[string]string{
		"print 1+2*3;print 1<2;print !true;print -(3);":                      "print 7, print 1, print 0, print -3, end",
		"var x;print x;x=3;x=x*x;print x;":                                   "print 0, print 9, end",
		"var bool b;print b;b=!b;print b;":                                   "print 0, print 1, end",
		"var a[3];a[2]=5;a[a[2]-4]=a[2]+1;print a[0];print a[1];print a[2];": "print 0, print 6, print 5, end",
		"var i;while(i<3){var x;x=x+1;print x;i=i+1;}":                       "print 1, print 1, print 1, end",
		"var i;while(i<2){var a[2];a[i]=a[0]+a[1]+1;print a[i];i=i+1;}":      "print 1, print 1, end",
		"var x;read x;print x;read x;print x;":                               "read 11, print 11, read 12, print 12, end",
		"var x;read x;read x;read x;print x;":                                "read 11, read 12, trap 5",
		"assert 1<2;print 1;assert 2<1;print 2;":                             "print 1, trap 3",
		"print 1;return;print 2;":                                            "print 1, end",
		"print 1/0;":                                                         "trap 1",
		"print 1;var x;x=1%x;print 2;":                                       "print 1, trap 1",
		"var a[2];print a[1];print a[2];":                                    "print 0, trap 2",
		"var a[2];a[2]=1;":                                                   "trap 2",
		"var a[2];a[-1]=1;":                                                  "trap 2",
		"var a[2];a[2]=1/0;":                                                 "trap 1",
		"var a[2];a[1/0]=a[2];":                                              "trap 1",
		"var a[2];a[a[2]]=1/0;":                                              "trap 2",
		"if(1/0==1){print 1;}else{print 2;}":                                 "trap 1",
		"while(1/0==1){print 1;}":                                            "trap 1",
		"assert 1/0==1;":                                                     "trap 1",
		"var x;x=add(2,3);print x;add(4,5);print x;":                         "print 5, print 5, end",
		"var x;x=add(1/0,2);":                                                "trap 1",
		"var a[1];say(a[0],a[1],1/0);":                                       "trap 2",
		"var a[1];say(a[0],1/0,a[1]);":                                       "trap 1",
		"var x;x=fact(10);print x;":                                          "print 3628800, end",
		"var x;x=fact(-1);print x;":                                          "print 1, end",
		"var bool b;b=even(10);print b;b=even(7);print b;":                   "print 1, print 0, end",
		"say(1,2,3);say(3,2,1);":                                             "print 1, print 2, print 3, print 3, print 2, print 1, end",
		"var x;x=1;twist(x);print x;":                                        "print 2, print 1, end",
		"print 9223372036854775807+1;print (-9223372036854775807-1)/(0-1);":  "print -9223372036854775808, print -9223372036854775808, end",
		"if(false&&1/0==1){print 1;} if(true||1/0==1){print 2;}":             "print 2, end",
		"down(48);print 1;":                                                  "print 0, print 1, end",
		"down(49);print 1;":                                                  "trap 4",
		"var x;x=7;while(x!=1){print x;if(x%2==0){x=x/2;}else{x=3*x+1;}}":    "print 7, print 22, print 11, print 34, print 17, print 52, print 26, print 13, print 40, print 20, print 10, print 5, print 16, print 8, print 4, print 2, end",
		"var x;x=early(3);print x;x=early(30);print x;":                      "print 103, print 30, end",
		"main2();": "print 5, end",
		"var i;while(true){i=i+1;if(i==3){say(i,i,i);return;}}":               "print 3, print 3, print 3, end",
		"var a[64];var i;while(i<64){a[i]=i;i=i+1;} print a[63]-a[0];":        "print 63, end",
		"var x;var y;read x;read y;while(y!=0){var z;z=x%y;x=y;y=z;}print x;": "read 11, read 12, print 1, end",
	} {
		runs(t, "proc main(){"+s+"}"+others, []int64{11, 12}, 4096, want)
	}
}

const others = `
proc add(int a,int b) int {return a+b;}
proc say(int a,int b,int c){print a;print b;print c;}
proc fact(int n) int {var r;if(n<=0){return 1;} r=fact(n-1);return n*r;}
proc even(int n) bool {var bool r;if(n==0){return true;} r=odd(n-1);return r;}
proc odd(int n) bool {var bool r;if(n==0){return false;} r=even(n-1);return r;}
proc twist(int x){x=x+1;print x;}
proc down(int n){if(0<n){down(n-1);}else{print n;}}
proc early(int n) int {while(n<10){if(n==3){n=n+100;return n;}n=n+1;}return n;}
proc main2(){var main;main=5;print main;}`

func TestRunDepth(t *testing.T) { // P5.8: just 50 frames
	deepest := func(h fold.History) int {
		n := 0
		for _, x := range h.Pos {
			n = max(n, x.Tick.Depth, len(x.Frames))
		}
		return n
	}
	if h := runs(t, "proc main(){main();}", nil, 4096, "trap 4"); deepest(h) != 50 || len(h.Pos) != 100 {
		t.Errorf("main calls itself: %d deep, %d ticks", deepest(h), len(h.Pos))
	}
	if h := runs(t, "proc main(){f(49);} proc f(int n){if(1<n){f(n-1);}}", nil, 4096, "end"); deepest(h) != 50 {
		t.Errorf("f calls itself: %d deep", deepest(h))
	}
	runs(t, "proc main(){f(50);} proc f(int n){if(1<n){f(n-1);}}", nil, 4096, "trap 4")
	runs(t, "proc main(){f(49,1);} proc f(int n,int k){if(1<n){f(n-1,1);}else{f(1,1/0);}}", nil, 4096, "trap 1")
}

func TestRunFuel(t *testing.T) { // P5.8: a mark without fuel is none
	s := "proc main(){print 1;f();print 2;} proc f(){print 3;}"
	for fuel, want := range []string{"fuel", "fuel", "print 1, fuel", "print 1, fuel", "print 1, fuel", "print 1, print 3, fuel", "print 1, print 3, fuel", "print 1, print 3, print 2, fuel", "print 1, print 3, print 2, end", "print 1, print 3, print 2, end"} {
		h := runs(t, s, nil, fuel, want)
		if len(h.Pos) != min(fuel, 8) {
			t.Errorf("fuel %d: %d ticks", fuel, len(h.Pos))
		}
	}
	if h := runs(t, "proc main(){while(true){}}", nil, 4096, "fuel"); len(h.Pos) != 4096 {
		t.Errorf("a loop without end: %d ticks", len(h.Pos))
	}
	runs(t, "proc main(){return;}", nil, 2, "fuel")
	runs(t, "proc main(){var x;x=f();} proc f() int {return 1/0;}", nil, 5, "trap 1")
	runs(t, "proc main(){var x;x=f();} proc f() int {return 1/1;}", nil, 5, "fuel")
}

func TestRunErrors(t *testing.T) { // P5.8: in this order
	right, long := "proc main(){}", make([]int64, 1001)
	for _, c := range []struct {
		source string
		input  []int64
		fuel   int
		want   api.Errno
	}{
		{right, nil, 0, api.OK},
		{right, []int64{}, 4096, api.OK},
		{right, long[:1000], 4096, api.OK},
		{right, nil, 4097, api.ErrLong},
		{right, nil, 1 << 62, api.ErrLong},
		{right, nil, -1, api.ErrArg},
		{right, nil, -1 << 63, api.ErrArg},
		{right, long, 9, api.ErrLong},
		{right, long, 4097, api.ErrLong},
		{right, long, -1, api.ErrArg},
		{"", nil, 9, api.ErrMain},
		{"", long, -1, api.ErrMain},
		{"proc main(int a){}", nil, 9, api.ErrMain},
		{"proc main(){x=1;}", nil, -1, api.ErrName},
		{"proc main(){print 1+true;}", long, 9, api.ErrType},
		{"proc main(){} proc f() int {}", nil, 4097, api.ErrReturn},
		{"proc main(){var a[65];}", nil, -1, api.ErrLong},
	} {
		h, e := fold.Run(program(t, c.source), c.input, c.fuel)
		if e != c.want || e != api.OK && (len(h.Pos) != 0 || len(h.Events) != 0) {
			t.Errorf("Run(%q, %d numbers, %d) = %v, %d", c.source, len(c.input), c.fuel, h, e)
		}
	}
	p := api.Prog{Procs: []api.Proc{{Name: "main", Body: []api.Stmt{{Kind: 99}}}}}
	if h, e := fold.Run(p, nil, 9); e != api.ErrForm || len(h.Pos) != 0 || len(h.Events) != 0 {
		t.Errorf("Run of no statement = %v, %d", h, e)
	}
}

// each visits the numbers of a history, with a count.
func each(h fold.History, visit func(count int64, n *int64)) {
	count := int64(0)
	for _, x := range h.Pos {
		for _, f := range x.Frames {
			for _, v := range f.Vals {
				for i := range v {
					count++
					visit(count, &v[i])
				}
			}
		}
	}
}

func TestRunShares(t *testing.T) { // P5.8: no two frames share memory, and nothing is kept
	p := program(t, "proc main(){var a[2];var x;a[1]=3;f(1);f(2);} proc f(int n){print n;}")
	input := []int64{1, 2, 3}
	h, _ := fold.Run(p, input, 99)
	before := shown(h)
	each(h, func(count int64, n *int64) { *n = count })
	for _, x := range h.Pos {
		for _, f := range x.Frames {
			for _, v := range f.Vals {
				_ = append(v, 77)
			}
			_ = append(f.Vals, []int64{88})
		}
	}
	each(h, func(count int64, n *int64) {
		if *n != count {
			t.Errorf("two lists share the number %d of the history", count)
		}
	})
	again, _ := fold.Run(p, input, 99)
	if shown(again) != before || !reflect.DeepEqual(input, []int64{1, 2, 3}) {
		t.Errorf("another run:\n%s\n%s", before, shown(again))
	}
}
