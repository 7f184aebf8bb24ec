package wire

import "stithy/api"

// form makes a message of its fields, in their order: each call of number, text and word takes the next one.
type form[T any] func(number func() uint64, text func() string, word func() api.Word) T

func ask(number func() uint64, text func() string, word func() api.Word) Ask {
	id, kind, addr := number(), int(number()), text()
	a := Ask{ID: id, Addr: addr, Kind: kind}
	if kind == ofSlot {
		a.Slot = word()
	}
	return a
}

func accountReply(number func() uint64, text func() string, word func() api.Word) Reply {
	return Reply{ID: number(), Account: api.Account{Nonce: number(), Balance: word(), Code: text()}}
}

func valueReply(number func() uint64, text func() string, word func() api.Word) Reply {
	return Reply{ID: number(), Value: word()}
}
