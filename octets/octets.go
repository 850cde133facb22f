// Package octets is layer 1: see shared/doc/01-octets.md.
package octets

import (
	"strings"

	"mootbell/api"
)

const (
	wordBytes  = 8 // of a uint64
	placeBytes = 4 // by which a part's place is told
)

// Put is a number as bytes, Take the number of some.
func Put(w uint64, n int) string {
	if !fitsWord(n) {
		return ""
	}
	b := make([]byte, n)
	for i := range b {
		b[i] = byte(w >> (8 * i))
	}
	return string(b)
}

func Take(s string, n int) (uint64, string, api.Errno) {
	var w uint64
	var rest string
	e := attempt(func() { w, rest = take(s, n) })
	return w, rest, e
}

// Join lays parts behind a fixed text, Split takes them apart.
func Join(fixed string, parts ...string) (string, api.Errno) {
	var whole string
	e := attempt(func() { whole = join(fixed, parts) })
	return whole, e
}

func Split(s string, fixed, many int) (string, []string, api.Errno) {
	var head string
	var parts []string
	e := attempt(func() { head, parts = split(s, fixed, many) })
	return head, parts, e
}

// attempt leaves results alone when do gives up, so that beside an error they stay zero.
func attempt(do func()) (e api.Errno) {
	defer func() {
		if r := recover(); r != nil {
			// Only demand panics here; anything else would be a fault of
			// this package, and must not pass for an answer.
			e = r.(api.Errno)
		}
	}()
	do()
	return api.OK
}

func demand(holds bool, e api.Errno) {
	if !holds {
		panic(e)
	}
}

func fitsWord(n int) bool { return 1 <= n && n <= wordBytes }

func take(s string, n int) (uint64, string) {
	demand(fitsWord(n), api.ErrArg)
	demand(len(s) >= n, api.ErrShort)
	// A piece of s would hold on to all of it: answers share nothing.
	return number(s[:n]), strings.Clone(s[n:])
}

// number takes at most wordBytes bytes; higher ones would be lost.
func number(s string) uint64 {
	var w uint64
	for i := range len(s) {
		w |= uint64(s[i]) << (8 * i)
	}
	return w
}

func join(fixed string, parts []string) string {
	demandRoom(fixed, parts)
	var whole strings.Builder
	whole.WriteString(fixed)
	place := len(fixed) + placeBytes*len(parts)
	for _, p := range parts {
		whole.WriteString(Put(uint64(place), placeBytes))
		place += len(p)
	}
	for _, p := range parts {
		whole.WriteString(p)
	}
	return whole.String()
}

// demandRoom counts down from the limit, since a sum of lengths could wrap round.
func demandRoom(fixed string, parts []string) {
	demand(len(parts) <= api.MaxParts, api.ErrLong)
	room := api.MaxBytes - placeBytes*len(parts)
	demand(len(fixed) <= room, api.ErrLong)
	room -= len(fixed)
	for _, p := range parts {
		demand(len(p) <= room, api.ErrLong)
		room -= len(p)
	}
}

func split(s string, fixed, many int) (string, []string) {
	demand(0 <= fixed && fixed <= api.MaxBytes, api.ErrArg)
	demand(0 <= many && many <= api.MaxParts, api.ErrArg)
	demand(len(s) <= api.MaxBytes, api.ErrLong)
	body := fixed + placeBytes*many
	demand(len(s) >= body, api.ErrShort)
	parts := make([]string, many)
	// From the last part backwards each end is known to lie within s, and
	// where the first one begins tells whether nothing is left over.
	end := len(s)
	for i := many - 1; i >= 0; i-- {
		place := placeAt(s, fixed+placeBytes*i)
		demand(place <= end, api.ErrForm)
		parts[i] = strings.Clone(s[place:end])
		end = place
	}
	demand(end == body, api.ErrForm)
	return strings.Clone(s[:fixed]), parts
}

func placeAt(s string, at int) int { return int(number(s[at : at+placeBytes])) }
