package node

import "quarto/api"

// The bytes of an encoding.
const (
	handleSize = 6
	countSize  = 2
	kidSize    = handleSize + 3*countSize
	maxSize    = 1 + api.MaxKids*kidSize
)

// Encode returns the encoding of a node.
func Encode(x api.Node) (string, api.Errno) {
	if e := Check(x); e != api.OK {
		return "", e
	}
	s := append([]byte{byte(x.Height)}, x.Text...)
	for _, kid := range x.Kids {
		s = encodeKid(s, kid)
	}
	return string(s), api.OK
}

// Decode returns the node with that encoding.
func Decode(s string) (api.Node, api.Errno) {
	if len(s) < 1 || len(s) > maxSize {
		return api.Node{}, api.ErrForm
	}
	x := api.Node{Height: int(s[0])}
	rest := s[1:]
	if x.Height == 0 {
		x.Text, rest = rest, ""
	}
	for len(rest) >= kidSize {
		x.Kids = append(x.Kids, decodeKid(rest[:kidSize]))
		rest = rest[kidSize:]
	}
	if rest != "" || Check(x) != api.OK {
		return api.Node{}, api.ErrForm
	}
	return x, api.OK
}

// encodeKid appends the encoding of a child to s. In a valid node each count is less than MaxText, because another child has some bytes, too.
func encodeKid(s []byte, kid api.Kid) []byte {
	put := func(n uint64, size int) {
		for size > 0 {
			size--
			s = append(s, byte(n>>(8*size)))
		}
	}
	put(uint64(kid.At), handleSize)
	for _, of := range []component{bytesOf, runesOf, linesOf} {
		put(uint64(of(kid.M)), countSize)
	}
	return s
}

// decodeKid returns the child with that encoding of kidSize bytes.
func decodeKid(s string) api.Kid {
	take := func(size int) uint64 {
		n := uint64(0)
		for i := range size {
			n = n<<8 | uint64(s[i])
		}
		s = s[size:]
		return n
	}
	// One after another, since each call takes the bytes behind those of the call before it.
	at := api.Handle(take(handleSize))
	bytes := int(take(countSize))
	runes := int(take(countSize))
	lines := int(take(countSize))
	return api.Kid{At: at, M: api.Measure{Bytes: bytes, Runes: runes, Lines: lines}}
}
