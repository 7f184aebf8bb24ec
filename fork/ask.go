package fork

import (
	"strings"

	"stithy/api"
	"stithy/record"
	"stithy/wire"
)

// ask is what part takes of the reply to an ask with the ID 0: of the one that is known, or else of one that is told now.
func ask[T any](c *Client, a wire.Ask, part func(r wire.Reply) T) (T, api.Errno) {
	var none T
	if len(a.Addr) != bytesOfAddr {
		return none, api.ErrArg
	}
	if r, ok := c.known[a]; ok {
		return part(r), api.OK
	}
	r, e := c.learn(a)
	if e != api.OK {
		return none, e
	}
	return part(r), api.OK
}

// learn asks, and keeps the reply: on the disk first, as what can't be kept there must not be known.
func (c *Client) learn(a wire.Ask) (wire.Reply, api.Errno) {
	r, ok := c.reply(a)
	if !ok {
		return wire.Reply{}, api.ErrRemote
	}
	if e := record.Add(c.disk, c.name, text(a, r)); e != api.OK {
		return wire.Reply{}, e
	}
	a.Addr = strings.Clone(a.Addr) // else all that it was cut from would be kept with it
	c.known[a] = r
	return r, api.OK
}

// reply asks until a reply counts, and tells that with the ID 0: false, if none does.
func (c *Client) reply(a wire.Ask) (wire.Reply, bool) {
	for range api.MaxTries {
		a.ID = uint64(len(c.asked)) + 1
		s, _ := wire.PutAsk(a)
		c.asked = append(c.asked, s)
		r, ok := wire.GetReply(a.Kind, c.next())
		if ok && r.ID == a.ID {
			r.ID = 0
			return r, true
		}
	}
	return wire.Reply{}, false
}

// next takes the next reply that will come: where there is none, nothing, which is no reply.
func (c *Client) next() string {
	if len(c.script) == 0 {
		return ""
	}
	s := c.script[0]
	c.script[0] = "" // else it would be kept as long as those behind it
	c.script = c.script[1:]
	return s
}
