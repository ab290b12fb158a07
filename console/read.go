package console

import (
	"strconv"
	"strings"

	"reredos/api"
	"reredos/bounds"
)

// Read what an operator types.
func Read(line string) (api.Command, api.Errno) {
	if len(line) > api.MaxLine {
		return api.Command{}, api.ErrSize
	}
	words := strings.Split(line, " ")
	x, ok := command(words[0], words[1:])
	if !ok {
		return api.Command{}, api.ErrForm
	}
	return x, api.OK
}

// command of its name, and the words behind it.
func command(name string, words []string) (api.Command, bool) {
	switch name {
	case "list":
		return api.Command{Kind: api.List}, len(words) == 0
	case "audit":
		return api.Command{Kind: api.Audit}, len(words) == 0
	case "status":
		return about(api.Status, words)
	case "force":
		return force(words)
	}
	return api.Command{}, false
}

// about a transaction: the label's place, its Site, and its N.
func about(kind int, words []string) (api.Command, bool) {
	if len(words) != 3 {
		return api.Command{}, false
	}
	place, isPlace := number(words[0], api.MaxLabels-1)
	site, isSite := number(words[1], api.MaxSites-1)
	n, isN := number(words[2], api.MaxNumber)
	return api.Command{Kind: kind, Label: place, Txn: api.Txn{Site: site, N: n}}, isPlace && isSite && isN
}

// force: behind the transaction stands what is to become of it.
func force(words []string) (api.Command, bool) {
	if len(words) != 4 {
		return api.Command{}, false
	}
	x, ok := about(api.Force, words[:3])
	x.Yes = words[3] == commit
	return x, ok && (x.Yes || words[3] == abort)
}

// number of a word, from 0 to most.
func number(word string, most int) (int, bool) {
	n, e := strconv.Atoi(word)
	// Atoi takes signs and noughts ahead; such a word is not the one that its number is written with.
	return n, e == nil && strconv.Itoa(n) == word && bounds.Within(n, 0, most)
}
