package merkle

import (
	"slices"

	"coffer/api"
)

// Verify answers whether the path leads from the tag of block i, of n blocks, to the root.
func Verify(root string, n, i int, tag string, path []string) bool {
	end, leads := begun().end(n, i, tag, path)
	return leads && end == root
}

// end answers the root to which the path leads from the tag of block i, if it is one among n blocks. How many rows it must have, and how long, comes of n and i alone: nobody makes a path shorter, or longer.
func (d digest) end(n, i int, tag string, path []string) (root string, leads bool) {
	if !may(n) || i < 0 || i >= n {
		return "", false
	}
	part := d(leaf(i, tag))
rows:
	for n > 1 {
		from, to := ends(n, i)
		switch {
		case len(path) == 0, len(path[0]) != (to-from)*api.Digest:
			break rows
		case partOf(path[0], i-from) != part:
			break rows
		}
		part, path = d(node(path[0])), path[1:]
		n, i = (n+api.Arity-1)/api.Arity, i/api.Arity
	}
	if n > 1 || len(path) > 0 {
		return "", false
	}
	return part, true
}

// partOf answers the part at that place among those that stand one behind the other.
func partOf(parts string, at int) string { return parts[at*api.Digest:][:api.Digest] }

// Clash answers two unlike texts of one digest, if two unlike tags of one block lead to one root.
func Clash(n, i int, tag, other string, path, way []string) (x, y string, is bool) {
	return begun().clash(n, i, tag, other, path, way)
}

// clash is Clash, by that digest. From the root down, as long as the rows of both are alike, so are the digests of what stands below them; and the leaves' texts are unlike, as the tags are.
func (d digest) clash(n, i int, tag, other string, path, way []string) (x, y string, is bool) {
	one, leads := d.end(n, i, tag, path)
	two, too := d.end(n, i, other, way)
	if tag == other || !leads || !too || one != two {
		return "", "", false
	}
	for k, row := range slices.Backward(path) {
		if row != way[k] {
			return node(row), node(way[k]), true
		}
	}
	return leaf(i, tag), leaf(i, other), true
}
