package impl

import "strconv"

const MaxVar = 562949953421311

const maxFixedWidth = 7
const maxVarBytes = 7
const maxReadDec = 999999999 // 9 digits

const hexDigits = "0123456789abcdef"

// putBehind lays more into out from place at on, and tells the place behind it.
// It writes into room of a known size, so that long texts are not copied again for each byte.
func putBehind(out []byte, at int, more ...byte) int {
	return at + copy(out[at:], more)
}

func isFixedWidth(width int) bool {
	return width >= 1 && width <= maxFixedWidth
}

func Fixed(n int, width int) string {
	if !isFixedWidth(width) || n < 0 || n>>(8*width) != 0 {
		return ""
	}
	out := make([]byte, width)
	at := 0
	for at < width {
		at = putBehind(out, at, byte(n>>(8*(width-1-at))))
	}
	return string(out)
}

func ReadFixed(s string, width int) (int, bool) {
	if !isFixedWidth(width) || len(s) < width {
		return 0, false
	}
	n := 0
	for i := range width {
		n = n*256 + int(s[i])
	}
	return n, true
}

func Var(n int) string {
	if n < 0 || n > MaxVar {
		return ""
	}
	out := make([]byte, maxVarBytes)
	at := 0
	for n >= 128 {
		at = putBehind(out, at, byte(n%128+128))
		n /= 128
	}
	at = putBehind(out, at, byte(n))
	return string(out[:at])
}

func ReadVar(s string) (int, int) {
	n := 0
	// No Var is longer than maxVarBytes: what goes on behind them is above MaxVar or needlessly long.
	for i := range min(len(s), maxVarBytes) {
		b := int(s[i])
		n += (b % 128) << (7 * i)
		if b >= 128 {
			continue
		}
		if b == 0 && i > 0 {
			// A last byte that adds nothing is one that Var leaves out.
			return 0, 0
		}
		return n, i + 1
	}
	return 0, 0
}

func Hex(s string) string {
	out := make([]byte, 2*len(s))
	at := 0
	for i := range len(s) {
		at = putBehind(out, at, hexDigits[s[i]/16], hexDigits[s[i]%16])
	}
	return string(out)
}

// hexValue tells what a digit of Hex stands for, and -1 for any other byte.
func hexValue(b byte) int {
	switch {
	case b >= '0' && b <= '9':
		return int(b - '0')
	case b >= 'a' && b <= 'f':
		return int(b-'a') + 10
	}
	return -1
}

func Unhex(s string) (string, bool) {
	if len(s)%2 != 0 {
		return "", false
	}
	out := make([]byte, len(s)/2)
	at := 0
	for at < len(out) {
		high, low := hexValue(s[2*at]), hexValue(s[2*at+1])
		if high < 0 || low < 0 {
			return "", false
		}
		at = putBehind(out, at, byte(high*16+low))
	}
	return string(out), true
}

func Dec(n int) string {
	return strconv.Itoa(n)
}

func ReadDec(s string) (int, bool) {
	n, err := strconv.Atoi(s)
	if err != nil || n < -maxReadDec || n > maxReadDec {
		return 0, false
	}
	// Atoi also takes a +, noughts ahead and -0, of which Dec makes none.
	if Dec(n) != s {
		return 0, false
	}
	return n, true
}
