package zip

// What stands at the beginning of each piece of a file.
const (
	localMark      = 0x04034B50
	descriptorMark = 0x08074B50
	recordMark     = 0x02014B50
	endMark        = 0x06054B50
)

// endSize is how many bytes the end has without its comment.
const endSize = 22

// The methods that are taken.
const (
	methodStored   = 0
	methodDeflated = 8
)

// Bits of the flags.
const (
	flagDescribed = 1 << 3  // the three longs stand behind what lies there
	flagUTF8      = 1 << 11 // the name is UTF-8
	flagsTaken    = 1<<1 | 1<<2 | flagDescribed | flagUTF8
)

// What ZIP64 writes in place of a number that it says elsewhere.
const (
	elsewhereShort = 0xFFFF
	elsewhereLong  = 0xFFFFFFFF
)

// What a written file says of each entry.
const (
	writtenVersion = 20
	writtenTime    = 0
	writtenDate    = 33 // the first of January 1980
)

// longs are the three longs that a file says of an entry up to three times.
type longs struct {
	sum    uint32
	lies   uint32 // the length of what lies there
	length uint32 // the length of the contents
}

// head is what a local header and a record of the directory both say.
type head struct {
	flags  uint16
	method uint16
	longs  longs
	name   string
}

// described tells whether the three longs stand behind what lies there too.
func (h head) described() bool {
	return h.flags&flagDescribed != 0
}

// record is an entry of the directory.
type record struct {
	head
	disk  uint16
	place uint32
}
