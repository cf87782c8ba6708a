package impl

const MaxNum = 1000000000

const (
	groupBits  = 7
	groupMore  = 128 // in a byte of a number: another group comes behind
	groupShift = 28  // where the highest group of MaxNum begins
	numBytes   = 5   // as many as MaxNum takes
	sumBytes   = 4
)

// sumTable says what four halvings turn a half byte into, so that a byte takes
// two steps instead of eight, and the table stays short enough to be written out.
var sumTable = [16]uint32{
	0x00000000, 0x105ec76f, 0x20bd8ede, 0x30e349b1,
	0x417b1dbc, 0x5125dad3, 0x61c69362, 0x7198540d,
	0x82f63b78, 0x92a8fc17, 0xa24bb5a6, 0xb21572c9,
	0xc38d26c4, 0xd3d3e1ab, 0xe330a81a, 0xf36e6f75,
}

func PutNum(b []byte, n int) []byte { return putNums(b, n) }

// putNums works on a copy, since a plain append would write into the spare
// room behind b.
func putNums(b []byte, nums ...int) []byte {
	out := make([]byte, len(b), len(b)+numBytes*len(nums))
	copy(out, b)
	for _, n := range nums {
		out = addGroups(out, min(max(n, 0), MaxNum))
	}
	return out
}

func addGroups(out []byte, n int) []byte {
	for shift := groupShift; shift > 0; shift -= groupBits {
		if n>>shift > 0 {
			out = append(out, byte(n>>shift)|groupMore)
		}
	}
	return append(out, byte(n%groupMore))
}

func GetNum(b []byte, at int) (int, int, bool) {
	if at < 0 || at >= len(b) || b[at] == groupMore {
		return 0, 0, false
	}
	n := 0
	for i := at; i < len(b); i++ {
		n = n<<groupBits + int(b[i]%groupMore)
		if n > MaxNum {
			return 0, 0, false
		}
		if b[i] < groupMore {
			return n, i + 1, true
		}
	}
	return 0, 0, false
}

func PutText(b []byte, s string) []byte {
	return append(putNums(b, len(s)), s...)
}

func GetText(b []byte, at int) (string, int, bool) {
	n, from, ok := GetNum(b, at)
	if !ok || n > len(b)-from {
		return "", 0, false
	}
	return string(b[from : from+n]), from + n, true
}

func Sum(b []byte) int {
	sum := ^uint32(0)
	for _, c := range b {
		sum ^= uint32(c)
		sum = sum>>4 ^ sumTable[sum%16]
		sum = sum>>4 ^ sumTable[sum%16]
	}
	return int(^sum)
}

func Frame(body []byte) []byte {
	return append(putNums(fourBytes(Sum(body)), len(body)), body...)
}

func Unframe(b []byte, at int) ([]byte, int, bool) {
	// Held against len(b) less four, not at and four: at may be the greatest int.
	if at < 0 || at > len(b)-sumBytes {
		return nil, at, false
	}
	n, from, ok := GetNum(b, at+sumBytes)
	if !ok || n > len(b)-from {
		return nil, at, false
	}
	body := make([]byte, n)
	copy(body, b[from:])
	if Sum(body) != readFour(b[at:at+sumBytes]) {
		return nil, at, false
	}
	return body, from + n, true
}

func fourBytes(n int) []byte {
	return []byte{byte(n >> 24), byte(n >> 16), byte(n >> 8), byte(n)}
}

func readFour(b []byte) int {
	n := 0
	for _, c := range b {
		n = n<<8 + int(c)
	}
	return n
}
