package impl

import "strconv"

const MaxVarint = 562949953421311

const (
	maxFixedWidth  = 7
	maxVarintBytes = 7
	maxParsedInt   = 999999999
	hexDigits      = "0123456789abcdef"
)

func EncodeFixed(n int, width int) string {
	if !isFixedWidth(width) || n < 0 || n>>(8*width) != 0 {
		return ""
	}
	b := make([]byte, width)
	for i := width - 1; i >= 0; i-- {
		b[i] = byte(n)
		n >>= 8
	}
	return string(b)
}

func DecodeFixed(s string, width int) (int, bool) {
	if !isFixedWidth(width) || len(s) < width {
		return 0, false
	}
	n := 0
	for i := range width {
		n = n<<8 | int(s[i])
	}
	return n, true
}

func isFixedWidth(width int) bool {
	return width >= 1 && width <= maxFixedWidth
}

func EncodeVarint(n int) string {
	if n < 0 || n > MaxVarint {
		return ""
	}
	b := make([]byte, 0, maxVarintBytes)
	for n >= 128 {
		b = append(b, byte(n)|128)
		n >>= 7
	}
	return string(append(b, byte(n)))
}

func DecodeVarint(s string) (int, int) {
	n := 0
	for i := range min(len(s), maxVarintBytes) {
		n |= int(s[i]&127) << (7 * i)
		if s[i] >= 128 {
			continue
		}
		// A number has one varint only: encoding it again shows unnecessary bytes.
		if EncodeVarint(n) != s[:i+1] {
			return 0, 0
		}
		return n, i + 1
	}
	return 0, 0
}

func EncodeHex(s string) string {
	b := make([]byte, 0, 2*len(s))
	for i := range len(s) {
		b = append(b, hexDigits[s[i]>>4], hexDigits[s[i]&15])
	}
	return string(b)
}

func DecodeHex(s string) (string, bool) {
	if len(s)%2 != 0 {
		return "", false
	}
	b := make([]byte, len(s)/2)
	// Up to the first character that is no digit, runes are bytes, so i is the number of the digit.
	for i, r := range s {
		digit, ok := hexValue(r)
		if !ok {
			return "", false
		}
		b[i/2] = b[i/2]<<4 | digit
	}
	return string(b), true
}

func hexValue(r rune) (byte, bool) {
	switch {
	case r >= '0' && r <= '9':
		return byte(r - '0'), true
	case r >= 'a' && r <= 'f':
		return byte(r-'a') + 10, true
	}
	return 0, false
}

func FormatInt(n int) string {
	return strconv.Itoa(n)
}

func ParseInt(s string) (int, bool) {
	n, err := strconv.Atoi(s)
	// Atoi also accepts a plus sign, leading zeros and -0; formatting the number again rules them out.
	if err != nil || n < -maxParsedInt || n > maxParsedInt || FormatInt(n) != s {
		return 0, false
	}
	return n, true
}
