// Package label: labels, and who may see what.
package label

import (
	"slices"

	"reredos/api"
	"reredos/bounds"
)

// Above: does a label dominate another one?
func Above(a, b api.Label) bool {
	return a.Level >= b.Level && a.Cats&b.Cats == b.Cats
}

// Join of two labels: the least one that dominates both.
func Join(a, b api.Label) api.Label {
	return api.Label{Level: max(a.Level, b.Level), Cats: a.Cats | b.Cats}
}

// Meet of two labels: the greatest one that both dominate.
func Meet(a, b api.Label) api.Label {
	return api.Label{Level: min(a.Level, b.Level), Cats: a.Cats & b.Cats}
}

// Check a config.
func Check(c api.Config) api.Errno {
	if !bounds.Within(c.Sites, 1, api.MaxSites) {
		return api.ErrRange
	}
	if !bounds.Within(len(c.Labels), 1, api.MaxLabels) {
		return api.ErrSize
	}
	for i, a := range c.Labels {
		if !inBounds(a) {
			return api.ErrRange
		}
		if slices.Contains(c.Labels[:i], a) {
			return api.ErrTwice
		}
	}
	if !bounds.Within(c.Patience, 1, api.MaxAge) {
		return api.ErrRange
	}
	return api.OK
}

func inBounds(a api.Label) bool {
	return bounds.Within(a.Level, 0, api.MaxLevel) && bounds.Within(a.Cats, 0, api.MaxCats)
}

// Sees: does the label at one place dominate that at another one?
func Sees(c api.Config, a, b int) (bool, api.Errno) {
	if e := Check(c); e != api.OK {
		return false, e
	}
	if !bounds.Label(c, a) || !bounds.Label(c, b) {
		return false, api.ErrNone
	}
	return Above(c.Labels[a], c.Labels[b]), api.OK
}

// Home of a key: the site where it is.
func Home(c api.Config, key int) (int, api.Errno) {
	if e := Check(c); e != api.OK {
		return 0, e
	}
	if !bounds.Key(key) {
		return 0, api.ErrRange
	}
	return key % c.Sites, api.OK
}

// Purge a script: what a label does not see is taken out; of a crash's tapes what is kept of those labels is 0.
func Purge(c api.Config, l int, acts []api.Act) ([]api.Act, api.Errno) {
	if e := Check(c); e != api.OK {
		return nil, e
	}
	if !bounds.Label(c, l) {
		return nil, api.ErrNone
	}
	var seen []api.Act
	for _, a := range acts {
		if hasLabel(a.Kind) && hides(c, l, a.Label) {
			continue
		}
		a.Keep = purgeKeep(c, l, a)
		seen = append(seen, a)
	}
	return seen, api.OK
}

// hasLabel: a Tick, a Start and a Crash are of all labels, whatever stands in their Label.
func hasLabel(kind int) bool {
	return kind != api.Tick && kind != api.Start && kind != api.Crash
}

// hides: a place where no label is hides nothing, for there is nobody whose act it could be.
func hides(c api.Config, l, place int) bool {
	return bounds.Label(c, place) && !Above(c.Labels[l], c.Labels[place])
}

// purgeKeep copies Keep even where nothing is purged: an answer shares no list with what was handed in.
func purgeKeep(c api.Config, l int, a api.Act) []int {
	keep := append([]int(nil), a.Keep...)
	if a.Kind != api.Crash {
		return keep
	}
	for i := range keep {
		if hides(c, l, i) {
			keep[i] = 0
		}
	}
	return keep
}
