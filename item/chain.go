package item

import (
	"casebook/api"
	"casebook/pack"
)

// MayChain is chapter 2's.
func MayChain(c api.Chain) bool {
	return isWithin(c.Epoch, 0, api.MaxEpoch) &&
		isWithin(len(c.Nodes), 1, api.MaxNodes) &&
		mayNodes(c.Nodes)
}

// PutChain is chapter 2's.
func PutChain(c api.Chain) ([]byte, int) {
	if !MayChain(c) {
		return nil, api.ErrArg
	}
	var w pack.Writer
	putInt(&w, c.Epoch)
	putList(&w, c.Nodes, putInt)
	return w.Bytes(), api.OK
}

// GetChain is chapter 2's.
func GetChain(b []byte) (api.Chain, int) {
	r := pack.New(b)
	c := api.Chain{
		Epoch: getInt(r, api.MaxEpoch),
		Nodes: getList(r, api.MaxNodes, getNode),
	}
	if r.End() != api.OK || !MayChain(c) {
		return api.Chain{}, api.ErrBad
	}
	return c, api.OK
}

// mayNodes tells if each is a node, and no two are alike.
func mayNodes(l []int) bool {
	var seen [api.MaxNodes]bool
	for _, n := range l {
		if !isWithin(n, 0, api.MaxNodes-1) || seen[n] {
			return false
		}
		seen[n] = true
	}
	return true
}

func getNode(r *pack.Reader) int { return getInt(r, api.MaxNodes-1) }
