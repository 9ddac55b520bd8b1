package merkle

import (
	"slices"
	"strings"

	"coffer/api"
	"coffer/code"
	"coffer/sha"
)

// Ahead in a text that is digested, so that no leaf is a node too.
const (
	leafKind = "l"
	nodeKind = "n"
)

// together answers the texts, one behind the other. It is a copy also of one text alone.
func together(texts ...string) string {
	var b strings.Builder
	for _, s := range texts {
		b.WriteString(s)
	}
	return b.String()
}

// leaf answers the text whose digest is the leaf of block i and the tag.
func leaf(i int, tag string) string { return together(leafKind, code.U64(uint64(i)), tag) }

// node answers the text whose digest is the part over these parts.
func node(parts ...string) string { return nodeKind + together(parts...) }

// digest answers the digest of a text. It is handed on, so that what is said of two texts of one digest can be tried by digests that have such texts.
type digest func(s string) string

// begun answers the digest of layer 1. Its digests are copies of one hash, since to begin a hash costs more than to digest a leaf.
func begun() digest {
	start := sha.New()
	return func(s string) string {
		h := start.Copy()
		h.Add(s)
		return h.Sum()
	}
}

// ends answers where the parts begin and end that make one part of the next row, among which is the one at that place, in a row of n.
func ends(n, at int) (from, to int) {
	from = at - at%api.Arity
	return from, min(from+api.Arity, n)
}

// around answers those parts. They are no copy.
func around(row []string, at int) []string {
	from, to := ends(len(row), at)
	return row[from:to]
}

// grown answers the rows over these tags, from the lowest one on, without the last, and the part of that one.
func (d digest) grown(tags []string) (rows [][]string, root string) {
	row := make([]string, 0, len(tags))
	for i, tag := range tags {
		row = append(row, d(leaf(i, tag)))
	}
	for len(row) > 1 {
		rows = append(rows, row)
		row = d.above(row)
	}
	return rows, row[0]
}

// above answers the row above one.
func (d digest) above(row []string) []string {
	var next []string
	for parts := range slices.Chunk(row, api.Arity) {
		next = append(next, d(node(parts...)))
	}
	return next
}
