package fork

import (
	"stithy/api"
	"stithy/rlp"
	"stithy/wire"
)

// text is what stands in the cache of an ask and its reply, both with the ID 0.
func text(a wire.Ask, r wire.Reply) string {
	asked, _ := wire.PutAsk(a)
	told, _ := wire.PutReply(a.Kind, r)
	return rlp.Encode(rlp.List(rlp.Text(asked), rlp.Text(told)))
}

// fact is the ask and the reply that s is the text of: false, if there are none.
func fact(s string) (wire.Ask, wire.Reply, bool) {
	pair, e := rlp.Decode(s)
	if e != api.OK || len(pair.L) != 2 {
		return wire.Ask{}, wire.Reply{}, false
	}
	a, asks := wire.GetAsk(pair.L[0].S)
	r, tells := wire.GetReply(a.Kind, pair.L[1].S)
	if !asks || !tells || a.ID != 0 || r.ID != 0 {
		return wire.Ask{}, wire.Reply{}, false
	}
	return a, r, true
}
