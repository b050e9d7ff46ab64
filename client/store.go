package client

import (
	"blotter/api"
	"blotter/msg"
	"blotter/noughts"
)

const (
	baseHead  = "b/"
	waitHead  = "q/"
	keyDigits = 19
)

// baseKey is where the mutation lies that is the v-th of the base.
func baseKey(v int) string { return baseHead + noughts.Ahead(v, keyDigits) }

// waitKey is where the mutation with an ID lies while it waits.
func waitKey(id int) string { return waitHead + noughts.Ahead(id, keyDigits) }

// waits is what the store is to write for a mutation that waits.
func waits(x api.Logged) api.Op { return holds(waitKey(x.ID), x) }

// taken is what the store is to write for mutations that come behind the base.
func (c *Client) taken(list []api.Logged) []api.Op {
	var ops []api.Op
	for i, x := range list {
		ops = append(ops, holds(baseKey(c.base.Top()+1+i), x))
		if x.Client == c.name {
			ops = append(ops, api.Op{Key: waitKey(x.ID), Gone: true})
		}
	}
	return ops
}

// holds is the op by which a key has a mutation.
func holds(key string, x api.Logged) api.Op {
	text, _ := msg.Put(x)
	return api.Op{Key: key, Value: text}
}

// recall takes the base and what waits from the store; false, if that is no store of this client.
func (c *Client) recall() bool {
	// By rising keys the base comes first, in its order, and then what waits, in its own.
	for _, item := range c.store.Scan("", "") {
		x, e := msg.Get(item.Value)
		if e != api.OK {
			return false
		}
		switch has := (api.Op{Key: item.Key, Value: item.Value}); {
		case has == holds(baseKey(c.base.Top()+1), x) && c.base.GoesOn(x):
			c.base.Take(x)
		case has == waits(x) && x.Client == c.name && x.ID == c.nextID():
			c.pending = append(c.pending, x)
		default:
			return false
		}
	}
	return len(c.pending) <= api.MaxPending
}
