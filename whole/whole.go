// Package whole: copies of what the layers hand out, lists too, so that nobody shares them.
package whole

import (
	"slices"

	"vanguard/api"
)

// Release copies a release, whatever it is.
func Release(r api.Release) api.Release {
	r.Lock = slices.Clone(r.Lock)
	return r
}

// Mail copies a piece of mail, whatever it is.
func Mail(m api.Mail) api.Mail {
	m.R = Release(m.R)
	return m
}
