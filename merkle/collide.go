package merkle

import "plexus/api"

// Collide answers two unlike byte strings of one hash, where a path checks for the root of the hashes, and is of another hash than that at its place, or of another Count.
func Collide(id api.Hash, p api.Path, ids ...api.Hash) (a, b []byte, is bool) {
	if Check(Root(ids...), id, p) != api.OK {
		return nil, nil, false
	}
	mine := trail(id, p)
	if p.Count != len(ids) {
		top, _ := climb(0, ids)
		return mine[len(mine)-1].whole(), rootText(len(ids), top...).whole(), true
	}
	if ids[p.N] == id {
		return nil, nil, false
	}
	theirs, _ := Path(p.N, ids...)
	return meet(mine, trail(ids[p.N], theirs))
}

// meet answers the lowest two texts of two trails that have one hash.
// They are unlike: the leaves' texts are of unlike hashes, and above two unlike hashes stand two unlike texts.
func meet(mine, theirs []text) (a, b []byte, is bool) {
	for i := range min(len(mine), len(theirs)) {
		if mine[i].hash() == theirs[i].hash() {
			return mine[i].whole(), theirs[i].whole(), true
		}
	}
	return nil, nil, false
}
