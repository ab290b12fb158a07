package lines_test

import (
	"slices"
	"strings"
	"testing"

	"reredos/api"
	"reredos/lines"
)

// reads: lines are these acts.
func reads(t *testing.T, s string, want []api.Act) {
	t.Helper()
	if l, place, e := lines.Read(conf(), s); !sameActs(l, want) || place != 0 || e != api.OK {
		t.Errorf("%q: %v, %d, %v; want %v", s, l, place, e, want)
	}
}

// unread: lines are refused, and nothing is told beside but the place.
func unread(t *testing.T, s string, at int, want api.Errno) {
	t.Helper()
	if l, place, e := lines.Read(conf(), s); len(l) != 0 || place != at || e != want {
		t.Errorf("%.200q: %v, %d, %v; want %d, %v", s, l, place, e, at, want)
	}
}

// wrong: a line is refused like this, wherever it stands, and whatever is behind it.
func wrong(t *testing.T, line string, want api.Errno) {
	t.Helper()
	unread(t, line+"\n", 0, want)
	unread(t, line+"\ntock\n", 0, want)
	unread(t, line+"\ntick\nstart 9\n", 0, want)
	unread(t, "tick\nstart 1\n"+line+"\ntick\n", 2, want)
}

// TestRead: P10.4: what Show writes is read, by itself and in a row.
func TestRead(t *testing.T) {
	var all []api.Act
	text := ""
	for _, x := range some() {
		reads(t, x.line+"\n", []api.Act{x.act})
		all, text = append(all, x.act), text+x.line+"\n"
	}
	reads(t, text, all)
	reads(t, "", nil)
}

// TestReadBytes: P10.4: each byte of a text comes back.
func TestReadBytes(t *testing.T) {
	for b := range 256 {
		a := api.Act{Kind: api.Type, Line: string([]byte{byte(b), byte(255 - b), 'x'})}
		s, _, _ := lines.Show(conf(), []api.Act{a})
		reads(t, s, []api.Act{a})
	}
}

// TestReadEnd: P10.4: a line that does not end is none, though it be in form otherwise, and whatever Check says of it.
func TestReadEnd(t *testing.T) {
	for _, x := range some() {
		unread(t, x.line, 0, api.ErrForm)
		unread(t, x.line+"\n"+x.line, 1, api.ErrForm)
		unread(t, x.line+"\r", 0, api.ErrForm)
		unread(t, x.line+"\x00", 0, api.ErrForm)
	}
	unread(t, "start 9", 0, api.ErrForm)
	unread(t, "start 9\ntick", 0, api.ErrRange)
	unread(t, "tick\n ", 1, api.ErrForm)
	unread(t, " ", 0, api.ErrForm)
	unread(t, "\n", 0, api.ErrForm)
	unread(t, "\n\n", 0, api.ErrForm)
	unread(t, "tick\n\n", 1, api.ErrForm)
	unread(t, "tick\n\ntick\n", 1, api.ErrForm)
}

// TestReadForm: P10.4: words that are none, too few, too many, or not in their places; and blanks.
func TestReadForm(t *testing.T) {
	for _, line := range []string{
		"", " ", "  ", "x", "0", "-", ".", "5", "1 0 0 begin", "begin", "get 1 0 3", "list", "\x00", "\r", "\t",
		"tock", "Tick", "TICK", "tic", "ticks", "tick ", " tick", "tick 0", "tick tick", "tick\r", "tick\t", "tick\x00", "\xef\xbb\xbftick", "tick.", "ti ck",
		"ask", "ask ", "ask 0", "ask 0 0", "ask 0 0 ", "ask 0 begin", "ask begin", "ask begin 0 0", "ask 0 begin 0", "ask 0 0 0", "ask 0 0 0 begin", "ask 0 0 .", "ask 0 0 tick", "ask 0 0 Begin", "ask 0 0 begins", "ask 0 0 begin ", "ask 0 0  begin", "ask  0 0 begin", "ask 0  0 begin", " ask 0 0 begin", "ask 0 0 begin 0", "ask 0 0 begin begin", "ask 0 0begin", "ask0 0 begin",
		"ask 0 0 get", "ask 0 0 get ", "ask 0 0 get 1", "ask 0 0 get 1 0", "ask 0 0 get 1 0 ", "ask 0 0 get 1 0 2 ", "ask 0 0 get 1 0 2 3", "ask 0 0 get 1  0 2", "ask 0 0 get1 0 2", "ask 0 0 1 get 0 2",
		"ask 0 0 put", "ask 0 0 put 1", "ask 0 0 put 1 2", "ask 0 0 put 1 2 ", "ask 0 0 put 1 2 3 4", "ask 0 0 put 1 2 3 ",
		"ask 0 0 commit", "ask 0 0 commit ", "ask 0 0 commit 1 ", "ask 0 0 commit 1 0", "ask 0 0 rollback", "ask 0 0 rollback 1 2", "ask 0 0 rollbac 1",
		"deliver", "deliver 0", "deliver 0 1", "deliver 0 1 0", "deliver 0 1 0 ", "deliver 0 1 0 2 ", "deliver 0 1 0 2 3", "deliver 0  1 0 2", "deliver\t0 1 0 2", "deliver 0\t1 0 2", "deliver 0 1 0\u00a02", "deliver 0,1,0,2", "delivered 0 1 0 2",
		"drop 0 1 0", "drop 0 1 0 2 3", "dro 0 1 0 2", "copy 0 1 0", "copy 0 1 0 2 3", "copie 0 1 0 2",
		"crash", "crash ", "crash 0 ", "crash 0  1", "crash 0 1 ", "crash 0 1  2", "crash 0 [1]", "crash 0 1,2", "crash 0 .", "crash 0 x", "crash 0 1 x", "crash x 1",
		"start", "start ", "start 0 ", "start 0 0", "start  0", "start .", "start",
		"type", "type 0", "type 0 0", "type 0 0 ", "type 0 0 61", "type 0 0 .6", "type 0 0 .616", "type 0 0 .6g", "type 0 0 .g6", "type 0 0 .4A", "type 0 0 .A4", "type 0 0 . ", "type 0 0  .", "type 0 0 .61 ", "type 0 0 .61 .61", "type 0 0 .6 1", "type 0 0 .61.61", "type 0 0 ..", "type 0 0 ..61", "type 0 0 .-1", "type 0 0 .+1", "type 0 0 .0x", "type 0 0 .\u00e4", "type 0 0 .0\u00e40", "type 0 0 list", "type 0 .61", "type .61", "type 0 0 0 .61", "type 0 . 0",
	} {
		wrong(t, line, api.ErrForm)
	}
}

// patterns: lines with an N where a number is, one for each number of each kind.
func patterns() []string {
	return []string{
		"ask N 0 begin", "ask 0 N begin", "ask 0 0 get N 0 0", "ask 0 0 get 0 N 0", "ask 0 0 get 0 0 N", "ask 0 0 put N 0 0", "ask 0 0 put 0 N 0", "ask 0 0 put 0 0 N", "ask 0 0 commit N", "ask 0 0 rollback N",
		"deliver N 0 0 0", "deliver 0 N 0 0", "deliver 0 0 N 0", "deliver 0 0 0 N", "drop N 0 0 0", "drop 0 N 0 0", "drop 0 0 N 0", "drop 0 0 0 N", "copy N 0 0 0", "copy 0 N 0 0", "copy 0 0 N 0", "copy 0 0 0 N",
		"crash N", "crash N 0", "crash 0 N", "crash 0 N 0", "crash 0 0 N", "start N", "type N 0 .", "type 0 N .61",
	}
}

// TestReadNumbers: P10.4: how numbers are written is form; where they end is a matter of Check, as far as 64 bits go.
func TestReadNumbers(t *testing.T) {
	for _, p := range patterns() {
		for _, n := range []string{
			"-0", "+0", "+1", "00", "01", "-01", "-", "--1", "- 1", "1-", "0x1", "0b1", "0o1", "1_0", "1.0", "1e0", "a", "1a", "O", "\uff11", "\u00b2", "\x001", "1\x00", "\t1", "1\t", "1\r", "\u22121", "NaN", "nil",
			"9223372036854775808", "-9223372036854775809", "18446744073709551615", "18446744073709551616", "18446744073709551617", "00000000000000000000", "99999999999999999999999999999", strings.Repeat("1", 10_000), "-" + strings.Repeat("0", 10_000),
		} {
			wrong(t, strings.ReplaceAll(p, "N", n), api.ErrForm)
		}
		for _, n := range []string{"-1", "-10", "9223372036854775807", "-9223372036854775808", "4294967296", "-4294967296", "10000000000"} {
			wrong(t, strings.ReplaceAll(p, "N", n), api.ErrRange)
		}
	}
}

// TestReadCheck: P10.4: what is in form but may not be is refused as Check does.
func TestReadCheck(t *testing.T) {
	for _, line := range []string{
		"ask 3 0 begin", "ask 0 2 begin", "ask 0 0 get 1048577 0 0", "ask 0 0 get 1 6 0", "ask 0 0 get 1 0 9", "ask 0 0 put 1048577 0 0", "ask 0 0 put 1 9 0", "ask 0 0 put 1 0 1073741825", "ask 0 0 commit 1048577", "ask 0 0 rollback 1048577",
		"deliver 3 0 0 0", "deliver 0 3 0 0", "deliver 0 0 2 0", "deliver 0 0 0 1048577", "drop 3 0 0 0", "copy 0 0 0 1048577",
		"crash 3", "crash 0 6001", "crash 0 0 6001", "crash 0 0 0 0", "crash 0" + strings.Repeat(" 0", api.MaxLabels), "crash 0" + strings.Repeat(" 0", api.MaxLabels+1), "crash 0" + strings.Repeat(" 7", 10_000), "start 3",
		"type 3 0 .", "type 0 2 .", "type 0 0 ." + strings.Repeat("61", api.MaxLine+1), "type 0 0 ." + strings.Repeat("00", 10_000),
	} {
		wrong(t, line, api.ErrRange)
	}
	// Form comes ahead of bounds.
	for _, line := range []string{"start 3 ", "deliver 9 9 9 x", "crash 0 9999 01", "crash 0 0 0 0 x", "crash 0" + strings.Repeat(" 7", 10_000) + " ", "crash 0" + strings.Repeat(" 7", 10_000) + " x", "ask 9 9 begun", "type 9 9 .6", "type 0 0 ." + strings.Repeat("61", api.MaxLine+1) + "6"} {
		wrong(t, line, api.ErrForm)
	}
}

// TestReadConfig: P10.4: what may be hangs on the config.
func TestReadConfig(t *testing.T) {
	c := api.Config{Sites: api.MaxSites, Patience: 1}
	for place := range api.MaxLabels {
		c.Labels = append(c.Labels, api.Label{Level: place})
	}
	keep := []int{1, 2, 3, 4, 5, 6}
	l, place, e := lines.Read(c, "crash 3 1 2 3 4 5 6\ndeliver 3 3 5 0\n")
	if !sameActs(l, []api.Act{{Kind: api.Crash, Site: 3, Keep: keep}, {Kind: api.Deliver, Site: 3, To: 3, Label: 5}}) || place != 0 || e != api.OK {
		t.Errorf("%v, %d, %v", l, place, e)
	}
	if l, place, e := lines.Read(c, "tick\ncrash 3 1 2 3 4 5 6 7\n"); len(l) != 0 || place != 1 || e != api.ErrRange {
		t.Errorf("%v, %d, %v", l, place, e)
	}
}

// TestReadSize: P10.4: MaxActs may be; the line behind them is one too many, whatever it is; what is wrong ahead tells first.
func TestReadSize(t *testing.T) {
	most := strings.Repeat("start 1\n", api.MaxActs)
	reads(t, most, slices.Repeat([]api.Act{{Kind: api.Start, Site: 1}}, api.MaxActs))
	for _, more := range []string{"tick\n", "tick", "tock\n", "start 9\n", "\n", " ", "x", "\x00", strings.Repeat("tick\n", 5000), strings.Repeat("x", 1_000_000)} {
		unread(t, most+more, api.MaxActs, api.ErrSize)
		unread(t, "tick\ntock\n"+most+more, 1, api.ErrForm)
		unread(t, "start 3\n"+most+more, 0, api.ErrRange)
		unread(t, strings.Repeat("tick\n", api.MaxActs-1)+"tock\n"+more, api.MaxActs-1, api.ErrForm)
		unread(t, strings.Repeat("tick\n", api.MaxActs-1)+"start 3\n"+more, api.MaxActs-1, api.ErrRange)
	}
	unread(t, strings.Repeat("tick\n", api.MaxActs-1)+"tick", api.MaxActs-1, api.ErrForm)
}

// TestReadLong: lines that are very long end, too.
func TestReadLong(t *testing.T) {
	const n = 1_000_000
	unread(t, strings.Repeat("x", n), 0, api.ErrForm)
	unread(t, strings.Repeat(" ", n)+"\n", 0, api.ErrForm)
	unread(t, "crash 0"+strings.Repeat(" 0", n)+"\n", 0, api.ErrRange)
	unread(t, "crash 0"+strings.Repeat(" 0", n), 0, api.ErrForm)
	unread(t, "type 0 0 ."+strings.Repeat("0a", n)+"\n", 0, api.ErrRange)
	unread(t, "start "+strings.Repeat("1", n)+"\n", 0, api.ErrForm)
	unread(t, strings.Repeat("\n", n), 0, api.ErrForm)
}
