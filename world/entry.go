package world

import (
	"slices"
	"strings"

	"stithy/api"
	"stithy/word"
)

// entry tells a change of that address.
func (x change) entry(addr string) Entry {
	out := Entry{Addr: addr, Changed: x.changed, Account: x.account, Wiped: x.wiped}
	for k, v := range x.slots {
		out.Slots = append(out.Slots, Slot{Key: k, Value: v})
	}
	slices.SortFunc(out.Slots, func(a, b Slot) int {
		if lessKey(a, b) {
			return -1
		}
		return 1 // no two of a map's keys are alike
	})
	return out
}

// change is what an entry tells: false, if that is nothing.
func (x Entry) change() (change, bool) {
	out := change{changed: x.Changed, account: x.Account, wiped: x.Wiped}
	out.account.Code = strings.Clone(out.account.Code)
	if len(x.Slots) > 0 {
		out.slots = map[api.Word]api.Word{}
	}
	for _, s := range x.Slots {
		out.slots[s.Key] = s.Value
	}
	return out, x.Changed || x.Wiped || len(x.Slots) > 0
}

// rise says whether each of l is less than the one behind it.
func rise[T any](l []T, less func(a, b T) bool) bool {
	for i := 1; i < len(l); i++ {
		if !less(l[i-1], l[i]) {
			return false
		}
	}
	return true
}

func lessAddr(a, b Entry) bool { return a.Addr < b.Addr }

func lessKey(a, b Slot) bool { return word.Less(a.Key, b.Key) }

// wrong says whether an entry may not be, its code aside.
func wrong(x Entry) bool {
	return len(x.Addr) != bytesOfAddr || !rise(x.Slots, lessKey) || !x.Changed && x.Account != api.Account{}
}

// long says whether an entry's code is longer than it may be.
func long(x Entry) bool { return len(x.Account.Code) > api.MaxCode }
