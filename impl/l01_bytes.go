package impl

import (
	"errors"
	"strconv"
)

// Constants, see chapter 1.
const (
	OK        = 0
	ErrForm   = 1
	ErrSize   = 2
	ErrSyntax = 3
	ErrShort  = 4
	ErrSum    = 5
	ErrNone   = 6
	ErrThere  = 7
	ErrRange  = 8
	ErrFull   = 9
	ErrDeep   = 10
	MaxBytes  = 8000
	MaxList   = 400
)

const (
	maxNumBytes = 10
	maxName     = 20
	crcBytes    = 4
	crcTurn     = 0xEDB88320
	maxCrc      = 1<<32 - 1
)

// NumOut is a thing of chapter 2.
type NumOut struct {
	N    int64
	At   int64
	Code int64
}

// TextOut is a thing of chapter 2.
type TextOut struct {
	Text string
	At   int64
	Code int64
}

// byteFault is what is wrong with bytes that are read, by its code.
type byteFault struct {
	code int64
}

func (f byteFault) Error() string {
	return "bytes refused with code " + strconv.FormatInt(f.code, 10)
}

// faultCode: OK stands for no error, since every error of this layer is a byteFault.
func faultCode(err error) int64 {
	var f byteFault
	if errors.As(err, &f) {
		return f.code
	}
	return OK
}

// joinTexts makes new memory, also of a single text, so that no answer shares any with an argument.
func joinTexts(texts ...string) string {
	many := 0
	for _, t := range texts {
		many += len(t)
	}
	out := make([]byte, many)
	at := 0
	for _, t := range texts {
		at += copy(out[at:], t)
	}
	return string(out)
}

// foldSign lays numbers below 0 between the others, so that small ones of both signs have few bytes.
func foldSign(n int64) uint64 {
	u := uint64(n) << 1
	if n < 0 {
		return ^u
	}
	return u
}

func unfoldSign(u uint64) int64 {
	n := int64(u >> 1)
	if u&1 == 1 {
		return ^n
	}
	return n
}

// PutNum: see chapter 2.
func PutNum(n int64) string {
	var out [maxNumBytes]byte
	many := 0
	u := foldSign(n)
	for u >= 128 {
		out[many] = byte(u&127) + 128
		u >>= 7
		many++
	}
	out[many] = byte(u)
	return string(out[:many+1])
}

// readNum: the number at that place and the place behind it.
func readNum(text string, at int64) (int64, int64, error) {
	var u uint64
	var b byte
	many := 0
	if at < 0 {
		return 0, 0, byteFault{ErrForm}
	}
more:
	if at >= int64(len(text)) {
		return 0, 0, byteFault{ErrShort}
	}
	b = text[at]
	at++
	many++
	// Nine bytes hold 63 bits: the tenth has room for one, and none may follow it.
	if many == maxNumBytes && b > 1 {
		goto wrong
	}
	u |= uint64(b&127) << (7 * (many - 1))
	if b < 128 {
		goto last
	}
	goto more
last:
	// A last byte of 0 adds nothing, so it is not needed unless it is the only one.
	if b == 0 && many > 1 {
		goto wrong
	}
	return unfoldSign(u), at, nil
wrong:
	return 0, 0, byteFault{ErrSyntax}
}

// GetNum: see chapter 2.
func GetNum(text string, at int64) NumOut {
	if len(text) > MaxBytes {
		return NumOut{Code: ErrSize}
	}
	n, behind, err := readNum(text, at)
	return NumOut{N: n, At: behind, Code: faultCode(err)}
}

// PutText: see chapter 2.
func PutText(t string) string {
	if len(t) > MaxBytes {
		return ""
	}
	return joinTexts(PutNum(int64(len(t))), t)
}

// readText: the text at that place and the place behind it.
func readText(text string, at int64) (string, int64, error) {
	many, from, err := readNum(text, at)
	if err != nil {
		return "", 0, err
	}
	if many < 0 || many > MaxBytes {
		return "", 0, byteFault{ErrSyntax}
	}
	if many > int64(len(text))-from {
		return "", 0, byteFault{ErrShort}
	}
	return joinTexts(text[from : from+many]), from + many, nil
}

// GetText: see chapter 2.
func GetText(text string, at int64) TextOut {
	if len(text) > MaxBytes {
		return TextOut{Code: ErrSize}
	}
	t, behind, err := readText(text, at)
	return TextOut{Text: t, At: behind, Code: faultCode(err)}
}

func isLetter(b byte) bool {
	return b >= 'a' && b <= 'z'
}

func isDigit(b byte) bool {
	return b >= '0' && b <= '9'
}

// inName: may it stand in a name, though perhaps not at its begin?
func inName(b byte) bool {
	return isLetter(b) || isDigit(b) || b == '_'
}

// NameRight: see chapter 2.
func NameRight(t string) bool {
	if len(t) < 1 || len(t) > maxName || !isLetter(t[0]) {
		return false
	}
	for i := 1; i < len(t); i++ {
		if !inName(t[i]) {
			return false
		}
	}
	return true
}

// crcByte: the register behind one more byte.
func crcByte(register uint32, b byte) uint32 {
	for i := range 8 {
		bit := uint32(b>>i) & 1
		turn := (bit ^ register) & 1
		register >>= 1
		if turn == 1 {
			register ^= crcTurn
		}
	}
	return register
}

// Crc: see chapter 2.
func Crc(text string) int64 {
	// The CRC of the empty text is 0, so to go on from it is to begin.
	return CrcMore(0, text)
}

// CrcMore: see chapter 2.
func CrcMore(crc int64, text string) int64 {
	if len(text) > MaxBytes || crc < 0 || crc > maxCrc {
		return 0
	}
	// A CRC is the register with all bits turned: turned back, it goes on from there.
	register := ^uint32(crc)
	for i := range len(text) {
		register = crcByte(register, text[i])
	}
	return int64(^register)
}

// crcText: the four bytes of a CRC, the lowest first.
func crcText(crc int64) string {
	var out [crcBytes]byte
	for i := range out {
		out[i] = byte(crc >> (8 * i))
	}
	return string(out[:])
}

// Seal: see chapter 2.
func Seal(text string) string {
	if len(text) > MaxBytes-crcBytes {
		return ""
	}
	return joinTexts(text, crcText(Crc(text)))
}

// Unseal: see chapter 2.
func Unseal(text string) TextOut {
	if len(text) > MaxBytes {
		return TextOut{Code: ErrSize}
	}
	if len(text) < crcBytes {
		return TextOut{Code: ErrShort}
	}
	sealed := text[:len(text)-crcBytes]
	if Seal(sealed) != text {
		return TextOut{Code: ErrSum}
	}
	return TextOut{Text: joinTexts(sealed)}
}
