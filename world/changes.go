package world

import (
	"strings"

	"stithy/api"
)

// change is what was changed of an address: never nothing.
type change struct {
	changed bool
	account api.Account
	wiped   bool
	slots   map[api.Word]api.Word // nil, where there are none
}

// changes are what was changed of each address, and how each change is taken back, in the order in which they were made.
type changes struct {
	of    map[string]change
	backs []func()
}

// fresh are changes of nothing.
func fresh() changes { return changes{of: map[string]change{}} }

// put lets v stand at k, and tells how to take that back.
func put[K comparable, V any](m map[K]V, k K, v V) (back func()) {
	old, was := m[k]
	m[k] = v
	return func() {
		if was {
			m[k] = old
		} else {
			delete(m, k)
		}
	}
}

// set changes what was changed of an address as a whole.
func (c *changes) set(addr string, x change) {
	addr = strings.Clone(addr) // else all that it was cut from would be kept with it
	c.backs = append(c.backs, put(c.of, addr, x))
}

func (c *changes) setAccount(addr string, a api.Account) {
	x := c.of[addr]
	x.changed, x.account = true, a
	c.set(addr, x)
}

// setSlot changes a slot: an address's first one with what was changed of the address, so that nothing of it stays when that is taken back.
func (c *changes) setSlot(addr string, k, v api.Word) {
	x := c.of[addr]
	if x.slots != nil {
		c.backs = append(c.backs, put(x.slots, k, v))
		return
	}
	x.slots = map[api.Word]api.Word{k: v}
	c.set(addr, x)
}

// wipe leaves the slots in the old change alone, so that it can be put back as it is.
func (c *changes) wipe(addr string) { c.set(addr, change{changed: true, wiped: true}) }
