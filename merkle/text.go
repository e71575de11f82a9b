package merkle

import (
	"slices"

	"plexus/api"
	"plexus/sha"
)

const countSize = 8 // of how many hashes a root is of

// text is what is hashed for a leaf, a knot or a root.
type text struct {
	name string
	body []byte
}

func leafText(id api.Hash) text {
	return text{"leaf", id[:]}
}

func knotText(left, right api.Hash) text {
	return text{"knot", slices.Concat(left[:], right[:])}
}

// rootText takes what is left of the rows: one hash, or none of none.
func rootText(count int, top ...api.Hash) text {
	var b []byte
	for i := range countSize {
		b = append(b, byte(uint64(count)>>(8*i)))
	}
	for _, h := range top {
		b = append(b, h[:]...)
	}
	return text{"root", b}
}

func (t text) hash() api.Hash {
	return sha.Tag(t.name, t.body)
}

// whole answers all bytes of which the hash is layer 2's Sum: the name stands ahead of the body.
func (t text) whole() []byte {
	return slices.Concat([]byte{byte(len(t.name))}, []byte(t.name), t.body)
}

// trail answers what is hashed on the way from the hash's leaf up to the root, by a path with just as many Hashes as it asks for.
func trail(id api.Hash, p api.Path) []text {
	texts := []text{leafText(id)}
	at := texts[0].hash()
	n, count, beside := p.N, p.Count, p.Hashes
rows:
	for {
		switch {
		case count <= 1:
			break rows
		case isAlone(n, count):
			n, count = above(n, count)
			continue rows
		case n%2 == 0:
			texts = append(texts, knotText(at, beside[0]))
		default:
			texts = append(texts, knotText(beside[0], at))
		}
		at, beside = texts[len(texts)-1].hash(), beside[1:]
		n, count = above(n, count)
	}
	return append(texts, rootText(p.Count, at))
}
