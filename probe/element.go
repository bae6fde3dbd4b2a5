package probe

import (
	"iter"
	"slices"
	"strconv"

	"chancery/api"
	"chancery/der"
)

// Put is the bytes of an element, with a length that der's chapter asks for, but not by der.
func Put(tag byte, parts ...[]byte) []byte {
	b := slices.Concat(parts...)
	return slices.Concat([]byte{tag}, length(len(b)), b)
}

// length is that of n bytes.
func length(n int) []byte {
	digits := []byte{byte(n >> 16), byte(n >> 8), byte(n)}
	switch {
	case n < 128:
		return digits[2:]
	case n < 1<<8:
		return slices.Concat([]byte{0x81}, digits[2:])
	case n < 1<<16:
		return slices.Concat([]byte{0x82}, digits[1:])
	}
	return slices.Concat([]byte{0x83}, digits)
}

// Node is an element: what is in it, others or a content; by how many bytes its length is too long (below 0: it is not said).
type Node struct {
	Tag     byte
	Parts   []*Node
	Content []byte
	Long    int
	above   *Node
}

// Tree is bytes as the elements that they are: those of a node without a tag of its own. What is constructed, and whole, is gone into.
func Tree(b []byte) *Node {
	root := &Node{}
	root.fill(b, true)
	return root
}

// fill makes of bytes what is in an element: others, if they are constructed and whole.
func (n *Node) fill(b []byte, constructed bool) {
	l, _, e := der.All(b)
	if !constructed || e != api.OK {
		n.Content = b
		return
	}
	for _, x := range l {
		part := &Node{Tag: byte(x.Tag), above: n}
		part.fill(x.Content, x.Tag&32 != 0)
		n.Parts = append(n.Parts, part)
	}
}

// Written is the bytes of it.
func (n *Node) Written() []byte {
	b := n.Inner()
	switch l := length(len(b)); {
	case n.Long < 0:
		return slices.Concat([]byte{n.Tag, 0x80}, b, []byte{0, 0})
	case n.Long > 0 && len(l) == 1:
		return slices.Concat([]byte{n.Tag, 0x80 + byte(n.Long)}, make([]byte, n.Long-1), l, b)
	case n.Long > 0:
		return slices.Concat([]byte{n.Tag, l[0] + byte(n.Long)}, make([]byte, n.Long), l[1:], b)
	default:
		return slices.Concat([]byte{n.Tag}, l, b)
	}
}

// Inner is the bytes of what is in it.
func (n *Node) Inner() []byte {
	var all [][]byte
	for _, p := range n.Parts {
		all = append(all, p.Written())
	}
	return slices.Concat(append(all, n.Content)...)
}

// All are all that are in it, from left to right.
func (n *Node) All() []*Node {
	var l []*Node
	for _, p := range n.Parts {
		l = append(append(l, p), p.All()...)
	}
	return l
}

// at is its place in the one above.
func (n *Node) at() int { return slices.Index(n.above.Parts, n) }

// become makes a content of what is in it.
func (n *Node) become(b []byte) { n.Parts, n.Content = nil, b }

// change is what is done to an element that stands in another one.
type change struct {
	what string
	do   func(n *Node)
}

// Altered goes over what becomes of bytes by each change of each element in them, with all lengths as they should be, but where the change is a length. Each element that is written out in more is laid ahead of it, behind it and in its place.
func Altered(b []byte, more ...string) iter.Seq2[string, []byte] {
	return func(yield func(string, []byte) bool) {
		count := len(Tree(b).All())
		for _, c := range slices.Concat(moves(), contents(), heads(), others(more)) {
			for i := range count {
				root := Tree(b)
				n := root.All()[i]
				what := "the element " + strconv.Itoa(i) + " of tag " + strconv.FormatInt(int64(n.Tag), 16) + ": " + c.what
				c.do(n)
				if !yield(what, root.Inner()) {
					return
				}
			}
		}
	}
}

// moves are the changes of where an element stands.
func moves() []change {
	return []change{
		{"twice", func(n *Node) { n.above.Parts = slices.Insert(n.above.Parts, n.at(), n) }},
		{"missing", func(n *Node) { n.above.Parts = slices.Delete(n.above.Parts, n.at(), n.at()+1) }},
		{"behind the next one", func(n *Node) {
			if at, l := n.at(), n.above.Parts; at+1 < len(l) {
				l[at], l[at+1] = l[at+1], l[at]
			}
		}},
		{"at the end", func(n *Node) {
			n.above.Parts = append(slices.Delete(n.above.Parts, n.at(), n.at()+1), n)
		}},
		{"within another one", func(n *Node) { n.Parts, n.Content = []*Node{{Tag: n.Tag, Content: n.Inner()}}, nil }},
		{"within a sequence", func(n *Node) {
			n.Parts, n.Content, n.Tag = []*Node{{Tag: n.Tag, Content: n.Inner()}}, nil, 0x30
		}},
		{"without itself", func(n *Node) {
			n.above.Parts = slices.Replace(n.above.Parts, n.at(), n.at()+1, n.Parts...)
		}},
	}
}

// contents are the changes of what is in an element.
func contents() []change {
	l := []change{
		{"empty", func(n *Node) { n.become(nil) }},
		{"a byte fewer", func(n *Node) {
			b := n.Inner()
			n.become(b[:max(0, len(b)-1)])
		}},
		{"a byte fewer ahead", func(n *Node) {
			b := n.Inner()
			n.become(b[min(1, len(b)):])
		}},
	}
	for _, x := range []byte{0, 1, 0x7f, 0x80, 0xff} {
		digits := strconv.FormatInt(int64(x), 16)
		l = append(l,
			change{"a byte " + digits + " more", func(n *Node) { n.become(append(n.Inner(), x)) }},
			change{"a byte " + digits + " more ahead", func(n *Node) { n.become(append([]byte{x}, n.Inner()...)) }})
	}
	return l
}

// heads are the changes of an element's tag and length.
func heads() []change {
	var l []change
	for _, long := range []int{1, 2, 3, -1} {
		l = append(l, change{"a length " + strconv.Itoa(long) + " longer", func(n *Node) { n.Long = long }})
	}
	for tag := range 256 {
		l = append(l, change{"the tag " + strconv.FormatInt(int64(tag), 16), func(n *Node) { n.Tag = byte(tag) }})
	}
	return l
}

// others are the changes by which another element, written out by digits, stands beside one, or in its place.
func others(more []string) []change {
	var l []change
	for _, digits := range more {
		b := Raw(digits)
		other := &Node{Tag: b[0], Content: b[2:]}
		l = append(l,
			change{digits + " ahead", func(n *Node) { n.above.Parts = slices.Insert(n.above.Parts, n.at(), other) }},
			change{digits + " behind", func(n *Node) { n.above.Parts = slices.Insert(n.above.Parts, n.at()+1, other) }},
			change{digits + " in its place", func(n *Node) { n.above.Parts[n.at()] = other }})
	}
	return l
}
