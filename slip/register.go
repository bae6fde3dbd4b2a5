package slip

const (
	allOnes  uint32 = 1<<32 - 1 // the register at first
	halfByte        = 4         // bits that go through the table at a time
	lowHalf         = 1<<halfByte - 1
)

// fallen: what the register is xored with when four bits have fallen off, by these bits. Each is what edb88320 makes of them in four steps of one bit.
var fallen = [1 << halfByte]uint32{
	0x00000000, 0x1db71064, 0x3b6e20c8, 0x26d930ac, 0x76dc4190, 0x6b6b51f4, 0x4db26158, 0x5005713c,
	0xedb88320, 0xf00f9344, 0xd6d6a3e8, 0xcb61b38c, 0x9b64c2b0, 0x86d3d2d4, 0xa00ae278, 0xbdbdf21c,
}

// moved is the register behind these bytes.
func moved(register uint32, b []byte) uint32 {
	for _, x := range b {
		register ^= uint32(x)
		register = register>>halfByte ^ fallen[register&lowHalf]
		register = register>>halfByte ^ fallen[register&lowHalf]
	}
	return register
}
