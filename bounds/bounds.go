// Package bounds: whether numbers are within what a config and the limits allow.
package bounds

import "reredos/api"

// Within: is a number from low to high?
func Within(n, low, high int) bool {
	return n >= low && n <= high
}

// Site: is there such a site?
func Site(c api.Config, n int) bool {
	return Within(n, 0, c.Sites-1)
}

// Label: is there a label at that place?
func Label(c api.Config, l int) bool {
	return Within(l, 0, len(c.Labels)-1)
}

// Key: is it one?
func Key(n int) bool {
	return Within(n, 0, api.Keys-1)
}

// Value: may a key have it?
func Value(n int) bool {
	return Within(n, 0, api.MaxValue)
}

// Txn: may there be such a transaction, with so many sites?
func Txn(t api.Txn, sites int) bool {
	return Within(t.Site, 0, sites-1) && Within(t.N, 1, api.MaxNumber)
}

// Rising: are all of them sites, each above the one ahead?
func Rising(c api.Config, sites []int) bool {
	low := 0
	for _, n := range sites {
		if !Within(n, low, c.Sites-1) {
			return false
		}
		low = n + 1
	}
	return true
}
