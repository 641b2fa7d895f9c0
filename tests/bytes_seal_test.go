package tests

import (
	"encoding/binary"
	"hash/crc32"
	"math"
	"testing"

	"loop.example/g00367/impl"
)

func crcModel(text string) int64 {
	return int64(crc32.ChecksumIEEE([]byte(text)))
}

func sealModel(text string) string {
	return string(binary.LittleEndian.AppendUint32([]byte(text), crc32.ChecksumIEEE([]byte(text))))
}

func TestCrcKnown(t *testing.T) {
	same(t, "nothing", impl.Crc(""), int64(0))
	same(t, "digits", impl.Crc("123456789"), int64(0xCBF43926))
	same(t, "a", impl.Crc("a"), int64(0xE8B7BE43))
	same(t, "a byte 0", impl.Crc("\x00"), int64(0xD202EF8D))
	same(t, "all ones", impl.Crc("\xff\xff\xff\xff"), int64(0xFFFFFFFF))
}

func TestCrcOfMany(t *testing.T) {
	for b := range 256 {
		text := string([]byte{byte(b)})
		same(t, "one byte", impl.Crc(text), crcModel(text))
	}
	d := &dice{state: 4}
	for range 300 {
		text := d.text(d.below(300))
		same(t, "text", impl.Crc(text), crcModel(text))
	}
}

func TestCrcLimits(t *testing.T) {
	most := long(impl.MaxBytes)
	same(t, "at the limit", impl.Crc(most), crcModel(most))
	same(t, "over it", impl.Crc(most+"x"), int64(0))
	same(t, "more, at the limit", impl.CrcMore(7, most) != 0, true)
	same(t, "more, over it", impl.CrcMore(7, most+"x"), int64(0))
	same(t, "more, over it, of no crc", impl.CrcMore(-1, most+"x"), int64(0))
}

func TestCrcGoesOn(t *testing.T) {
	text := "a text\x00\xff of two parts" + everyByte()
	for i := range len(text) + 1 {
		same(t, "two parts", impl.CrcMore(impl.Crc(text[:i]), text[i:]), crcModel(text))
	}
	d := &dice{state: 5}
	crc, all := int64(0), ""
	for range 200 {
		part := d.text(d.below(30))
		crc, all = impl.CrcMore(crc, part), all+part
		same(t, "part by part", crc, crcModel(all))
	}
	most := long(impl.MaxBytes)
	same(t, "both at the limit", impl.CrcMore(impl.Crc(most), most), crcModel(most+most))
}

func TestCrcMoreOfNumbers(t *testing.T) {
	for _, crc := range []int64{0, 1, 0x7FFFFFFF, 0x80000000, 0xEDB88320, 1<<32 - 2, 1<<32 - 1} {
		same(t, "nothing behind", impl.CrcMore(crc, ""), crc)
		same(t, "abc behind", impl.CrcMore(crc, "abc"), int64(crc32.Update(uint32(crc), crc32.IEEETable, []byte("abc"))))
	}
	for _, crc := range []int64{-1, -(1 << 32), math.MinInt64, 1 << 32, 1<<32 + 1, math.MaxInt64} {
		same(t, "no crc", impl.CrcMore(crc, "abc"), int64(0))
		same(t, "no crc, nothing behind", impl.CrcMore(crc, ""), int64(0))
	}
}

func TestSealBytes(t *testing.T) {
	same(t, "nothing", impl.Seal(""), "\x00\x00\x00\x00")
	same(t, "digits", impl.Seal("123456789"), "123456789\x26\x39\xf4\xcb")
	d := &dice{state: 6}
	for range 200 {
		text := d.text(d.below(100))
		same(t, "seal", impl.Seal(text), sealModel(text))
	}
}

func TestSealedTextsComeBack(t *testing.T) {
	for _, text := range []string{"", "a", "\x00", "\x00\x00\x00\x00", impl.Seal("twice"), everyByte(), long(4000)} {
		same(t, "unsealed", impl.Unseal(impl.Seal(text)), impl.TextOut{Text: text})
	}
}

func TestSealLimits(t *testing.T) {
	most := long(impl.MaxBytes - 4)
	same(t, "at the limit", impl.Seal(most), sealModel(most))
	same(t, "at the limit, back", impl.Unseal(impl.Seal(most)), impl.TextOut{Text: most})
	for many := impl.MaxBytes - 3; many <= impl.MaxBytes+1; many++ {
		same(t, "over it", impl.Seal(long(many)), "")
	}
	same(t, "unsealed, over the limit", impl.Unseal(sealModel(long(impl.MaxBytes-3))), impl.TextOut{Code: impl.ErrSize})
	same(t, "unsealed, no seal at the limit", impl.Unseal(long(impl.MaxBytes)), impl.TextOut{Code: impl.ErrSum})
}

func TestUnsealRefusals(t *testing.T) {
	for _, text := range []string{"", "\x00", "\x00\x00", "\x00\x00\x00", "abc"} {
		same(t, "short", impl.Unseal(text), impl.TextOut{Code: impl.ErrShort})
	}
	for _, text := range []string{"\x00\x00\x00\x01", "abcd", "123456789\xcb\xf4\x39\x26", impl.Seal("ab") + "\x00", "a" + impl.Seal("ab"), impl.Seal("ab")[1:]} {
		same(t, "no seal", impl.Unseal(text), impl.TextOut{Code: impl.ErrSum})
	}
}

func TestOneByteTurned(t *testing.T) {
	for _, text := range []string{"", "ab", everyByte()} {
		sealed := []byte(impl.Seal(text))
		for i := range sealed {
			for turn := 1; turn < 256; turn++ {
				sealed[i] ^= byte(turn)
				if got := impl.Unseal(string(sealed)); got != (impl.TextOut{Code: impl.ErrSum}) {
					t.Fatalf("byte %d turned by %d: got %+v", i, turn, got)
				}
				sealed[i] ^= byte(turn)
			}
		}
	}
}

func TestOneByteTurnedAtTheLimit(t *testing.T) {
	sealed := []byte(impl.Seal(long(impl.MaxBytes - 4)))
	for i := 0; i < len(sealed); i += 37 {
		sealed[i] ^= 1
		same(t, "turned", impl.Unseal(string(sealed)), impl.TextOut{Code: impl.ErrSum})
		sealed[i] ^= 1
	}
	sealed[impl.MaxBytes-1] ^= 128
	same(t, "the last one turned", impl.Unseal(string(sealed)), impl.TextOut{Code: impl.ErrSum})
}
