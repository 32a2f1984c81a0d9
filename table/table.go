// Package table: a lock as an array, where a name is asked for, or changed, without a search.
package table

import (
	"vanguard/api"
	"vanguard/lock"
)

// Versions of a lock, by name; 0 where the name isn't there, for no pin has that version.
type Versions [api.MaxName + 1]int

// Of makes versions of locks alone (lock.Check's error of others): so every name is within the array.
func Of(l []api.Pin) (Versions, api.Errno) {
	if e := lock.Check(l); e != api.OK {
		return Versions{}, e
	}
	var v Versions
	for _, p := range l {
		v[p.Name] = p.Version
	}
	return v, api.OK
}

// Pins answers all that is there, by rising names; they are more than a lock has if too many came.
func (v Versions) Pins() []api.Pin {
	var l []api.Pin
	for name, version := range v {
		if version != 0 {
			l = append(l, api.Pin{Name: name, Version: version})
		}
	}
	return l
}
