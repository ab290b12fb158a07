package console_test

import (
	"strconv"
	"strings"
	"testing"

	"reredos/api"
	"reredos/console"
)

// reads: a line is this command.
func reads(t *testing.T, line string, want api.Command) {
	t.Helper()
	if x, e := console.Read(line); e != api.OK || x != want {
		t.Errorf("%q: %v, %v; want %v", line, x, e, want)
	}
}

// unread: a line is refused, and nothing is told beside.
func unread(t *testing.T, line string, want api.Errno) {
	t.Helper()
	if x, e := console.Read(line); e != want || x != (api.Command{}) {
		t.Errorf("%q: %v, %v; want %v", line, x, e, want)
	}
}

// TestRead: P9.1: each command, and what its words stand for.
func TestRead(t *testing.T) {
	reads(t, "list", api.Command{Kind: api.List})
	reads(t, "audit", api.Command{Kind: api.Audit})
	reads(t, "status 1 2 3", api.Command{Kind: api.Status, Label: 1, Txn: api.Txn{Site: 2, N: 3}})
	reads(t, "status 3 1 2", api.Command{Kind: api.Status, Label: 3, Txn: api.Txn{Site: 1, N: 2}})
	reads(t, "force 1 2 3 commit", api.Command{Kind: api.Force, Label: 1, Txn: api.Txn{Site: 2, N: 3}, Yes: true})
	reads(t, "force 1 2 3 abort", api.Command{Kind: api.Force, Label: 1, Txn: api.Txn{Site: 2, N: 3}})
	reads(t, "force 0 1 10 commit", api.Command{Kind: api.Force, Txn: api.Txn{Site: 1, N: 10}, Yes: true})
	reads(t, "force 5 0 1000000 abort", api.Command{Kind: api.Force, Label: 5, Txn: api.Txn{N: 1000000}})
}

// typed: the line of a command that may be typed.
func typed(x api.Command) string {
	numbers := strconv.Itoa(x.Label) + " " + strconv.Itoa(x.Txn.Site) + " " + strconv.Itoa(x.Txn.N)
	switch {
	case x.Kind == api.List:
		return "list"
	case x.Kind == api.Audit:
		return "audit"
	case x.Kind == api.Status:
		return "status " + numbers
	case x.Yes:
		return "force " + numbers + " commit"
	}
	return "force " + numbers + " abort"
}

// commands that may be typed: all labels and sites, and some transactions of each.
func commands() []api.Command {
	l := []api.Command{{Kind: api.List}, {Kind: api.Audit}}
	for place := range api.MaxLabels {
		for site := range api.MaxSites {
			for _, n := range []int{0, 1, 2, 9, 10, 11, 99, 100, 12345, 999999, api.MaxNumber - 1, api.MaxNumber} {
				t := api.Txn{Site: site, N: n}
				l = append(l, api.Command{Kind: api.Status, Label: place, Txn: t})
				l = append(l, api.Command{Kind: api.Force, Label: place, Txn: t, Yes: true}, api.Command{Kind: api.Force, Label: place, Txn: t})
			}
		}
	}
	return l
}

// TestReadAll: P9.1: all labels and sites, and transactions up to the last one.
func TestReadAll(t *testing.T) {
	for _, x := range commands() {
		reads(t, typed(x), x)
	}
}

// badNumbers: none of them is a number up to most.
func badNumbers(most int) []string {
	l := []string{
		"", "-1", "-0", "+0", "+1", "00", "01", "001", "0x1", "0b1", "0o1", "1_0", "1.0", "1e0", "a", "1a", "a1", "O", "１", "²", "\x001", "1\x00", "\t1", "1\t", "1\n", "1\r", "NaN", "Inf", "nil",
		"9223372036854775807", "9223372036854775808", "-9223372036854775808", "18446744073709551616", "18446744073709551617",
		"00000000000000000000", "99999999999999999999999999999",
	}
	return append(l, strconv.Itoa(most+1), strconv.Itoa(-most), "0"+strconv.Itoa(most), strconv.Itoa(most)+"0")
}

// TestReadNumbers: P9.1: each number by itself: its bound, and how it is written.
func TestReadNumbers(t *testing.T) {
	for _, bad := range badNumbers(api.MaxLabels - 1) {
		unread(t, "status "+bad+" 1 2", api.ErrForm)
		unread(t, "force "+bad+" 1 2 commit", api.ErrForm)
	}
	for _, bad := range badNumbers(api.MaxSites - 1) {
		unread(t, "status 1 "+bad+" 2", api.ErrForm)
		unread(t, "force 1 "+bad+" 2 abort", api.ErrForm)
	}
	for _, bad := range badNumbers(api.MaxNumber) {
		unread(t, "status 1 2 "+bad, api.ErrForm)
		unread(t, "force 1 2 "+bad+" commit", api.ErrForm)
	}
}

// TestReadForm: P9.1: words that are none, too few, too many, or not in their places; and blanks.
func TestReadForm(t *testing.T) {
	for _, line := range []string{
		"", " ", "  ", "\n", "\x00", "x", "0", "commit", "abort", "damage", "prepared", "unknown", "denied",
		"List", "LIST", "lis", "lists", "list list", "list audit", "list 0", "list ", " list", "list\n", "list\t", "\tlist", "list\x00", "list\r\n",
		"Audit", "audits", "audi", "audit 0", "audit ", " audit", "audit\n", "audit list",
		"status", "status ", "status 0", "status 0 1", "status 0 1 ", "status 0 1 2 ", "status 0 1 2 3", "status 0 1 2 commit", " status 0 1 2", "status  0 1 2", "status 0  1 2", "status 0 1  2", "status\t0 1 2", "status 0\t1 2", "status 0 1\u00a02", "status 0 1 2\n", "status0 1 2", "status 01 2", "Status 0 1 2", "0 1 2 status",
		"force", "force ", "force 0", "force 0 1", "force 0 1 2", "force 0 1 2 ", "force 0 1 commit", "force commit", "force 0 1 2 commit ", "force 0 1 2  commit", "force 0 1 2 commit commit", "force 0 1 2 commit abort", "force 0 1 2 3", "force 0 1 2 3 commit", "force 0 1 2 Commit", "force 0 1 2 ABORT", "force 0 1 2 commits", "force 0 1 2 commi", "force 0 1 2 abor", "force 0 1 2 aborted", "force 0 1 2 yes", "force 0 1 2 true", "force 0 1 2 maybe", "force 0 1 2commit", "force commit 0 1 2", " force 0 1 2 commit", "force  0 1 2 abort", "force 0 1 2 abort\n", "Force 0 1 2 abort",
	} {
		unread(t, line, api.ErrForm)
	}
}

// TestReadSize: P9.1: the length is asked ahead of all else, and told in bytes.
func TestReadSize(t *testing.T) {
	for _, line := range []string{strings.Repeat("x", api.MaxLine), strings.Repeat(" ", api.MaxLine), "list" + strings.Repeat(" ", api.MaxLine-4), strings.Repeat("\u00e4", api.MaxLine/2), "status 0 0 " + strings.Repeat("0", api.MaxLine-11)} {
		unread(t, line, api.ErrForm)
		unread(t, line+"x", api.ErrSize)
		unread(t, line+" ", api.ErrSize)
		unread(t, line+"\xff", api.ErrSize)
		unread(t, "list "+line, api.ErrSize)
	}
	unread(t, strings.Repeat("\u00e4", api.MaxLine/2+1), api.ErrSize)
	unread(t, strings.Repeat("list ", 1_000_000), api.ErrSize)
}

// readAsTyped: what is read is typed like this, within its bounds; all else is ErrForm.
func readAsTyped(t *testing.T, line string) bool {
	t.Helper()
	x, e := console.Read(line)
	if e != api.OK {
		unread(t, line, api.ErrForm)
		return false
	}
	small := x.Label >= 0 && x.Label < api.MaxLabels && x.Txn.Site >= 0 && x.Txn.Site < api.MaxSites && x.Txn.N >= 0 && x.Txn.N <= api.MaxNumber
	if !small || typed(x) != line {
		t.Errorf("%q: %v", line, x)
	}
	return true
}

// TestReadOneByte: each line that is one byte away from a command is read as what it says then, or not at all.
func TestReadOneByte(t *testing.T) {
	read, refused := 0, 0
	try := func(line string) {
		if readAsTyped(t, line) {
			read++
		} else {
			refused++
		}
	}
	for _, line := range []string{"list", "audit", "status 0 1 2", "status 5 3 1048576", "force 1 2 30 commit", "force 4 0 9 abort"} {
		for at := range len(line) + 1 {
			for b := range 256 {
				try(line[:at] + string([]byte{byte(b)}) + line[at:])
				if at < len(line) {
					try(line[:at] + string([]byte{byte(b)}) + line[at+1:])
				}
			}
			if at < len(line) {
				try(line[:at] + line[at+1:])
			}
		}
	}
	if read < 100 || refused < 10000 {
		t.Errorf("too little was tried: %d, %d", read, refused)
	}
}

// TestReadAgain: nothing is kept from call to call.
func TestReadAgain(t *testing.T) {
	for range 3 {
		reads(t, "force 1 2 3 commit", api.Command{Kind: api.Force, Label: 1, Txn: api.Txn{Site: 2, N: 3}, Yes: true})
		reads(t, "list", api.Command{Kind: api.List})
		unread(t, "force 1 2 3", api.ErrForm)
		reads(t, "force 0 0 0 abort", api.Command{Kind: api.Force})
	}
}
