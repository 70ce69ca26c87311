package der

// The tags of which the document says what their contents must be.
const (
	boolean = iota + 1
	integer
	bitString
	octetString // any contents are right
	null
	identifier
)

const (
	sequence = iota + 0x10
	set
)

const (
	constructed = 0x20
	lowBits     = 0x1f // all of them set: the tag goes on in further bytes, which nothing here needs
)

func isTag(tag int) bool { return 0 <= tag && tag <= 0xff && tag&lowBits != lowBits }

func isConstructed(tag int) bool { return tag&constructed != 0 }

// right: may a primitive element of that tag have these contents? Of a constructed one, whose contents are elements: may the tag stand at all?
func right(tag int, contents []byte) bool {
	switch tag {
	case boolean:
		return len(contents) == 1 && (contents[0] == 0 || contents[0] == 0xff)
	case integer:
		return isInteger(contents)
	case bitString:
		return isBits(contents)
	case null:
		return len(contents) == 0
	case identifier:
		return isGroups(contents)
	case sequence, set:
		return false
	case constructed | boolean, constructed | integer, constructed | bitString, constructed | null, constructed | identifier:
		return false
	}
	return true
}

// isInteger: a first byte that repeats the sign of the second one could be left out.
func isInteger(contents []byte) bool {
	if len(contents) < 2 {
		return len(contents) == 1
	}
	below := contents[1] >= 0x80
	return !(contents[0] == 0 && !below || contents[0] == 0xff && below)
}

func isBits(contents []byte) bool {
	if len(contents) == 0 || contents[0] > 7 {
		return false
	}
	unused, bits := contents[0], contents[1:]
	if len(bits) == 0 {
		return unused == 0
	}
	return bits[len(bits)-1]&(1<<unused-1) == 0
}

func isGroups(contents []byte) bool {
	begins := true
	for _, b := range contents {
		if begins && b == 0x80 {
			return false
		}
		begins = b < 0x80
	}
	return begins && len(contents) > 0
}
