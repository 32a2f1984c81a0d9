// Package lock: packages at versions, and how a lock is written. See doc/01-lock.md.
package lock

import (
	"slices"
	"strconv"
	"strings"

	"vanguard/api"
	"vanguard/limit"
	"vanguard/number"
)

// Check tells what is wrong with l as a lock.
func Check(l []api.Pin) api.Errno {
	if len(l) > api.MaxPins {
		return api.ErrMany
	}
	ahead := 0 // below every name that may be, so the first pin is no case of its own
	for _, p := range l {
		if !limit.Within(p.Name, 1, api.MaxName) || !limit.Within(p.Version, 1, api.MaxVersion) {
			return api.ErrRange
		}
		if p.Name <= ahead {
			return api.ErrTwice
		}
		ahead = p.Name
	}
	return api.OK
}

// Find answers the version of the first pin of this name, or 0; l need not be a lock.
func Find(l []api.Pin, name int) int {
	k := slices.IndexFunc(l, func(p api.Pin) bool { return p.Name == name })
	if k < 0 {
		return 0
	}
	return l[k].Version
}

// Print writes a lock: 1@2,7@1.
func Print(l []api.Pin) (string, api.Errno) {
	if e := Check(l); e != api.OK {
		return "", e
	}
	words := make([]string, len(l))
	for i, p := range l {
		words[i] = strconv.Itoa(p.Name) + "@" + strconv.Itoa(p.Version)
	}
	return strings.Join(words, ","), api.OK
}

// Parse reads what Print writes.
func Parse(s string) ([]api.Pin, api.Errno) {
	if len(s) > api.MaxText {
		return nil, api.ErrMany
	}
	l, ok := readPins(s)
	if !ok {
		return nil, api.ErrText
	}
	if e := Check(l); e != api.OK {
		return nil, e
	}
	return l, api.OK
}

// readPins reads all of s before anybody asks what the numbers are: a text that isn't written so is told ahead of a lock that is none.
func readPins(s string) ([]api.Pin, bool) {
	if s == "" { // Split would make one empty word of the empty lock
		return nil, true
	}
	var l []api.Pin
	for _, word := range strings.Split(s, ",") {
		p, ok := readPin(word)
		if !ok {
			return nil, false
		}
		l = append(l, p)
	}
	return l, true
}

func readPin(word string) (api.Pin, bool) {
	left, right, cut := strings.Cut(word, "@")
	name, okName := number.Read(left)
	version, okVersion := number.Read(right)
	if !cut || !okName || !okVersion {
		return api.Pin{}, false
	}
	return api.Pin{Name: name, Version: version}, true
}
