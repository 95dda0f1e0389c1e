package desk_test

import (
	"encoding/binary"
	"encoding/hex"
	"hash/adler32"
	"strconv"
	"strings"
	"testing"
)

// closed are the bytes of a tape: those ahead of its sum, and the sum.
func closed(l ...byte) []byte { return binary.BigEndian.AppendUint32(l, adler32.Checksum(l)) }

// size is what save tells of a tape.
func size(tape []byte) string {
	return "bytes " + strconv.Itoa(len(tape)) + " sum " + strconv.FormatUint(uint64(adler32.Checksum(tape)), 10)
}

// load is the line that loads a tape.
func load(tape []byte) string { return "load " + hex.EncodeToString(tape) }

func TestSave(t *testing.T) { // P19.1, P19.6
	printed := size(closed(80, 76, 88, 49, 2, 1, 0, 0, 1, 2, 0, 1, 1, 17, 2, 3, 0, 2, 1, 19, 0))
	empty := size(closed(80, 76, 88, 49, 2, 1, 0, 0, 1, 3, 0, 1, 1, 19, 0))
	d := plays(t, "save left", "error 42", "left proc main ( ) { print 1 ; }", "ok", "save left", printed, "save right", "error 42", "save both", printed+" / error 42",
		"right proc main ( ) { }", "ok", "save right", empty, "save both", printed+" / "+empty,
		"fuel 1", "ok", "save both", size(closed(80, 76, 88, 49, 2, 1, 0, 0, 1, 21, 0))+" / "+size(closed(80, 76, 88, 49, 2, 1, 0, 0, 1, 21, 0)),
		"fuel 0", "ok", "save left", size(closed(80, 76, 88, 49, 2, 21, 0)), "fuel 2", "ok",
		"save left", size(closed(80, 76, 88, 49, 2, 1, 0, 0, 1, 2, 0, 1, 1, 17, 2, 21, 0)), "save right", empty,
		"left x", "ok", "save both", "error 30 / "+empty, "right @", "ok", "save both", "error 30 / error 20", "do where left", "error 100")
	for _, wrong := range []string{"save", "save ", "save both ", "save  both", "save middle", "save left right", "save Left", "saves both"} {
		says(t, d, wrong, "error 101")
	}
	plays(t, "left proc main ( ) { x = 1 ; }", "ok", "save left", "error 40", "right proc main ( ) { return 1 ; }", "ok", "save both", "error 40 / error 41")
	for _, line := range []string{"fuel -1", "fuel 1048577", "input" + strings.Repeat(" 1", 1001)} { // recording
		plays(t, "right proc main ( ) { }", "ok", line, "ok", "save both", "error 42 / error 1")
	}
	plays(t, "right proc main ( ) { }", "ok", "decl x", "ok", "every 0", "ok", "room 0", "ok", "save right", empty) // which play no part
}

func TestLongestSaved(t *testing.T) { // P19.1: a tape of just 2^22 bytes, and one that would be longer
	const ticks = (1<<22 - 16) / 4
	tape := []byte{80, 76, 88, 49, 2, 1, 0, 0, 1, 2, 0, 1, 1, 17, 0x80, 0x80, 0x80, 1}
	for range ticks - 2 {
		tape = append(tape, 2, 0, 2, 1)
	}
	tape = closed(append(tape, 21, 0)...)
	if len(tape) != 1<<22 {
		t.Fatalf("%d bytes", len(tape))
	}
	plays(t, "left proc main ( ) { print 1048576 ; while ( true ) { } }", "ok", "fuel "+strconv.Itoa(ticks), "ok", "save left", size(tape), "fuel "+strconv.Itoa(ticks+1), "ok", "save left", "error 2")
}

func TestSaveRuns(t *testing.T) { // P19.1, P19.6: as it is there, built plain, with the input and the fuel
	p := "proc main ( ) { var x ; read x ; x = f ( x ) ; } proc f ( int n ) int { return n / 0 ; }"
	tape := size(closed(80, 76, 88, 49, 2, 1, 0, 0, 1, 2, 0, 1, 1, 2, 0, 2, 1, 18, 0xcf, 0x0f, 2, 0, 3, 1, 1, 1, 0, 2, 2, 1, 1, 2, 20, 2, 0))
	d := plays(t, "left "+p, "ok", "right "+p, "ok", "input -1000", "ok", "save both", tape+" / "+tape)
	for _, line := range []string{"plain both", "lean left", "open", "do run left", "save left", "do break left main 1", "every 1", "decl # x", "do back left 1", "limit 1", "room 1", "input 4", "open"} {
		d.Line(line)
		says(t, d, "save both", tape+" / "+tape)
	}
	says(t, d, "fuel 2", "ok")
	cut := size(closed(80, 76, 88, 49, 2, 1, 0, 0, 1, 2, 0, 1, 1, 21, 0))
	says(t, d, "save right", cut)
	says(t, d, "fuel 9", "ok")
	says(t, d, "right # nothing more", "ok")
	says(t, d, "save right", tape)
	says(t, d, "right proc g ( ) { }", "ok") // what is opened has no such procedure
	says(t, d, "save right", tape)
	says(t, d, "right @", "ok")
	says(t, d, "save both", tape+" / error 20")
	says(t, d, "do where right", "right 0 of 7: begin")
}

func TestLoad(t *testing.T) { // P19.1
	p := "proc main ( ) { var x ; while ( true ) { read x ; } }"
	tape := closed(80, 76, 88, 49, 1, 2, 1, 128, 1)
	d := plays(t, "left "+p, "ok", "right "+p, "ok", "input 7 8", "ok", load(tape), "ok", "open", "ok", "do run left", "left 9 of 9: over", "do events left", "read -1 / read 64 / trap 5",
		"input 3", "ok", "open", "ok", "do run both", "left 11 of 11: over / right 11 of 11: over", "do events right", "read -1 / read 64 / read 3 / trap 5")
	kept := func(line, want string) { // it changes nothing
		t.Helper()
		says(t, d, line, want)
		says(t, d, "open", "ok")
		says(t, d, "do run left", "left 11 of 11: over")
		says(t, d, "do events left", "read -1 / read 64 / read 3 / trap 5")
	}
	text := hex.EncodeToString(tape)
	for _, wrong := range []string{"", " ", "0", "g0", "0g", text[1:], text + "0", text + " ", " " + text, text[:2] + " " + text[2:], strings.ToUpper(text), "5_", "+5", "0x", "-1", text[:len(text)-1] + "G", text + "\n", "x"} {
		kept("load "+wrong, "error 61")
	}
	kept("load", "error 101")
	kept("loads "+text, "error 101")
	for k, at := range []int{1, 2, 3, 4, 5, 6, 7, 7, 9, 9, 9, 9} { // cut off: the bytes that there are, the last number's place, the sum's
		kept(load(tape[:k+1]), "error 112 "+strconv.Itoa(at))
	}
	kept(load(append(tape[:len(tape):len(tape)], 0)), "error 110 13")
	kept("load 01", "error 110 0")
	kept(load(closed(80, 76, 88, 49, 2, 0)), "error 110 4")
	kept(load(closed(80, 76, 88, 49, 1, 0xe9, 7)), "error 2 5")      // 1001 numbers
	kept(load(closed(80, 76, 88, 49, 1, 1, 0x80, 0)), "error 110 6") // more bytes than it needs
	kept("load 504c58310100"+"00000000", "error 111 6")              // another sum
}

func TestLoadWhole(t *testing.T) { // P19.1: of no numbers, and of as many as there may be
	p := "proc main ( ) { var x ; while ( true ) { read x ; } }"
	plays(t, "left "+p, "ok", "right "+p, "ok", "input 7 8", "ok", load(closed(80, 76, 88, 49, 1, 0)), "ok", "open", "ok", "do run left", "left 5 of 5: over", "do events left", "trap 5")
	all := []byte{80, 76, 88, 49, 1, 0xe8, 7}
	for range 1000 {
		all = append(all, 6)
	}
	d := plays(t, "left "+p, "ok", "right "+p, "ok", load(closed(all...)), "ok", "fuel 9999", "ok", "open", "ok", "do run left", "left 2005 of 2005: over")
	if l := d.Line("do events left"); len(l) != 1001 || l[0] != "read 3" || l[999] != "read 3" || l[1000] != "trap 5" {
		t.Errorf("%d events", len(l))
	}
	says(t, d, load(closed(append(all, 0)...)), "error 111 1007")
}
