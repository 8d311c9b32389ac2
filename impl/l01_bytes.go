package impl

import (
	"errors"
	"strconv"
)

// Constants, see chapter 1.
const (
	OK        = 0
	ErrForm   = 1
	ErrSize   = 2
	ErrSyntax = 3
	ErrShort  = 4
	ErrSum    = 5
	ErrNone   = 6
	ErrThere  = 7
	ErrRange  = 8
	ErrFull   = 9
	ErrState  = 10
	MaxBytes  = 8000
	MaxList   = 400
	MaxTime   = 1000000
)

const (
	maxNumBytes  = 10
	maxNameBytes = 20
	crcBytes     = 4
	crcTurn      = 0xEDB88320
	maxCrc       = 1<<32 - 1
)

// NumOut is a thing of chapter 2.
type NumOut struct {
	N    int64
	At   int64
	Code int64
}

// TextOut is a thing of chapter 2.
type TextOut struct {
	Text string
	At   int64
	Code int64
}

// byteFault is what is wrong with bytes that are read.
type byteFault struct {
	code int64
}

func (f byteFault) Error() string {
	return "bytes: code " + strconv.FormatInt(f.code, 10)
}

// faultCode: the code that an error of reading stands for, OK of none.
func faultCode(err error) int64 {
	var fault byteFault
	if errors.As(err, &fault) {
		return fault.code
	}
	return OK
}

// joined copies even a single part: an answer shares no memory with an argument.
func joined(parts ...string) string {
	size := 0
	for _, part := range parts {
		size += len(part)
	}
	out := make([]byte, size)
	at := 0
	for _, part := range parts {
		at += copy(out[at:], part)
	}
	return string(out)
}

// PutNum: see chapter 2.
func PutNum(n int64) string {
	// The shifted sign turns all bits of a number below 0, which makes 2n into -2n-1.
	u := uint64(n)<<1 ^ uint64(n>>63)
	var out [maxNumBytes]byte
	used := 0
	for u >= 128 {
		out[used] = byte(u&127) | 128
		u >>= 7
		used++
	}
	out[used] = byte(u)
	return string(out[:used+1])
}

// readNum reads the number at a place that is not below 0, and tells the place behind it.
func readNum(text string, at int64) (int64, int64, error) {
	var u uint64
	var b byte
	used := 0
	code := int64(ErrShort)
more:
	if at >= int64(len(text)) {
		goto wrong
	}
	b = text[at]
	at++
	used++
	u |= uint64(b&127) << (7 * (used - 1))
	if b < 128 {
		goto last
	}
	if used < maxNumBytes {
		goto more
	}
last:
	code = ErrSyntax
	// The tenth byte has room for the one bit that nine of seven bits leave of 64.
	if used == maxNumBytes && b > 1 {
		goto wrong
	}
	if used > 1 && b == 0 {
		goto wrong
	}
	return int64(u>>1) ^ -int64(u&1), at, nil
wrong:
	return 0, 0, byteFault{code: code}
}

// GetNum: see chapter 2.
func GetNum(text string, at int64) NumOut {
	if len(text) > MaxBytes {
		return NumOut{Code: ErrSize}
	}
	if at < 0 {
		return NumOut{Code: ErrForm}
	}
	n, end, err := readNum(text, at)
	return NumOut{N: n, At: end, Code: faultCode(err)}
}

// PutText: see chapter 2.
func PutText(t string) string {
	if len(t) > MaxBytes {
		return ""
	}
	return joined(PutNum(int64(len(t))), t)
}

// GetText: see chapter 2.
func GetText(text string, at int64) TextOut {
	size := GetNum(text, at)
	if size.Code != OK {
		return TextOut{Code: size.Code}
	}
	if size.N < 0 || size.N > MaxBytes {
		return TextOut{Code: ErrSyntax}
	}
	end := size.At + size.N
	if end > int64(len(text)) {
		return TextOut{Code: ErrShort}
	}
	return TextOut{Text: joined(text[size.At:end]), At: end}
}

// NameRight: see chapter 2.
func NameRight(t string) bool {
	if len(t) < 1 || len(t) > maxNameBytes || !isLetter(t[0]) {
		return false
	}
	for i := 1; i < len(t); i++ {
		if !isLetter(t[i]) && !isDigit(t[i]) && t[i] != '_' {
			return false
		}
	}
	return true
}

func isLetter(b byte) bool {
	return b >= 'a' && b <= 'z'
}

func isDigit(b byte) bool {
	return b >= '0' && b <= '9'
}

// Crc: see chapter 2.
func Crc(text string) int64 {
	// The register of no text, with all bits turned, is 0.
	return CrcMore(0, text)
}

// CrcMore: see chapter 2.
func CrcMore(crc int64, text string) int64 {
	if len(text) > MaxBytes || crc < 0 || crc > maxCrc {
		return 0
	}
	register := ^uint32(crc)
	for i := 0; i < len(text); i++ {
		register = crcByte(register, text[i])
	}
	return int64(^register)
}

// crcByte puts all bits of a byte in at once: a bit further up is not asked for until it is the lowest.
func crcByte(register uint32, b byte) uint32 {
	register ^= uint32(b)
	for range 8 {
		turn := register&1 == 1
		register >>= 1
		if turn {
			register ^= crcTurn
		}
	}
	return register
}

// crcText writes a CRC as Seal lays it behind a text.
func crcText(crc int64) string {
	var out [crcBytes]byte
	for i := range out {
		out[i] = byte(crc >> (8 * i) & 255)
	}
	return string(out[:])
}

// Seal: see chapter 2.
func Seal(text string) string {
	if len(text) > MaxBytes-crcBytes {
		return ""
	}
	return joined(text, crcText(Crc(text)))
}

// Unseal: see chapter 2.
func Unseal(text string) TextOut {
	if len(text) > MaxBytes {
		return TextOut{Code: ErrSize}
	}
	if len(text) < crcBytes {
		return TextOut{Code: ErrShort}
	}
	body := text[:len(text)-crcBytes]
	if Seal(body) != text {
		return TextOut{Code: ErrSum}
	}
	return TextOut{Text: joined(body)}
}
