package tests

import (
	"math"
	"strconv"
	"strings"
	"testing"

	"loop.example/g01923/impl"
)

// everyString calls visit with every string of at most most bytes of the alphabet.
func everyString(alphabet string, most int, visit func(string)) {
	var extend func(string)
	extend = func(s string) {
		visit(s)
		if len(s) == most {
			return
		}
		for i := range len(alphabet) {
			extend(s + alphabet[i:i+1])
		}
	}
	extend("")
}

func everyByte() string {
	all := make([]byte, 256)
	for i := range all {
		all[i] = byte(i)
	}
	return string(all)
}

func TestMaxVarintValue(t *testing.T) {
	if impl.MaxVarint != 1<<49-1 {
		t.Error(impl.MaxVarint)
	}
}

func TestEncodeFixedValues(t *testing.T) {
	for _, c := range []struct {
		n, width int
		want     string
	}{
		{258, 2, "\x01\x02"},
		{0, 1, "\x00"},
		{0, 7, "\x00\x00\x00\x00\x00\x00\x00"},
		{255, 1, "\xff"},
		{255, 2, "\x00\xff"},
		{0x01020304050607, 7, "\x01\x02\x03\x04\x05\x06\x07"},
		{1<<56 - 1, 7, "\xff\xff\xff\xff\xff\xff\xff"},
	} {
		if got := impl.EncodeFixed(c.n, c.width); got != c.want {
			t.Errorf("EncodeFixed(%d, %d) = %q, want %q", c.n, c.width, got, c.want)
		}
	}
}

func TestEncodeFixedRejects(t *testing.T) {
	for width := 1; width <= 7; width++ {
		for _, n := range []int{-1, math.MinInt, 1 << (8 * width), 1<<(8*width) + 1, math.MaxInt} {
			if got := impl.EncodeFixed(n, width); got != "" {
				t.Errorf("EncodeFixed(%d, %d) = %q", n, width, got)
			}
		}
	}
	for _, width := range []int{math.MinInt, -8, -1, 0, 8, 9, 64, math.MaxInt} {
		for _, n := range []int{0, 1, -1, math.MaxInt} {
			if got := impl.EncodeFixed(n, width); got != "" {
				t.Errorf("EncodeFixed(%d, %d) = %q", n, width, got)
			}
		}
	}
}

func TestDecodeFixedValues(t *testing.T) {
	for _, c := range []struct {
		s     string
		width int
		want  int
	}{
		{"\x01\x02", 2, 258},
		{"\x01\x02\x03", 2, 258},
		{"\x01\x02\x03", 1, 1},
		{"\xff", 1, 255},
		{"\x00\x00\x00", 3, 0},
		{"\xff\xff\xff\xff\xff\xff\xff", 7, 1<<56 - 1},
		{"\xff\xff\xff\xff\xff\xff\xff\xff", 7, 1<<56 - 1},
	} {
		if got, ok := impl.DecodeFixed(c.s, c.width); got != c.want || !ok {
			t.Errorf("DecodeFixed(%q, %d) = %d, %v, want %d", c.s, c.width, got, ok, c.want)
		}
	}
}

func TestDecodeFixedRejects(t *testing.T) {
	long := "\x01\x02\x03\x04\x05\x06\x07\x08\x09"
	for width := 1; width <= 7; width++ {
		for length := range width {
			if n, ok := impl.DecodeFixed(long[:length], width); n != 0 || ok {
				t.Errorf("DecodeFixed of %d bytes, width %d: %d, %v", length, width, n, ok)
			}
		}
	}
	for _, width := range []int{math.MinInt, -1, 0, 8, 9, math.MaxInt} {
		for _, s := range []string{"", "a", long} {
			if n, ok := impl.DecodeFixed(s, width); n != 0 || ok {
				t.Errorf("DecodeFixed(%q, %d) = %d, %v", s, width, n, ok)
			}
		}
	}
}

func TestFixedIsInverse(t *testing.T) {
	for width := 1; width <= 7; width++ {
		for shift := range 8 * width {
			for _, n := range []int{0, 1<<shift - 1, 1 << shift, 0xa5a5a5a5a5a5a5 >> (56 - 8*width) >> shift} {
				s := impl.EncodeFixed(n, width)
				if len(s) != width {
					t.Fatalf("EncodeFixed(%d, %d) has %d bytes", n, width, len(s))
				}
				for _, rest := range []string{"", "\x00", "\xffz"} {
					if got, ok := impl.DecodeFixed(s+rest, width); got != n || !ok {
						t.Errorf("DecodeFixed(%q, %d) = %d, %v, want %d", s+rest, width, got, ok, n)
					}
				}
			}
		}
	}
	everyString(everyByte(), 2, func(s string) {
		if s == "" {
			return
		}
		n, ok := impl.DecodeFixed(s, len(s))
		if !ok || impl.EncodeFixed(n, len(s)) != s {
			t.Errorf("DecodeFixed(%q, %d) = %d, %v", s, len(s), n, ok)
		}
	})
}

func TestEncodeVarintValues(t *testing.T) {
	for _, c := range []struct {
		n    int
		want string
	}{
		{0, "\x00"},
		{1, "\x01"},
		{127, "\x7f"},
		{128, "\x80\x01"},
		{300, "\xac\x02"},
		{16383, "\xff\x7f"},
		{16384, "\x80\x80\x01"},
		{1<<42 - 1, "\xff\xff\xff\xff\xff\x7f"},
		{1 << 42, "\x80\x80\x80\x80\x80\x80\x01"},
		{impl.MaxVarint, "\xff\xff\xff\xff\xff\xff\x7f"},
	} {
		if got := impl.EncodeVarint(c.n); got != c.want {
			t.Errorf("EncodeVarint(%d) = %q, want %q", c.n, got, c.want)
		}
	}
	for _, n := range []int{-1, -128, math.MinInt, impl.MaxVarint + 1, math.MaxInt} {
		if got := impl.EncodeVarint(n); got != "" {
			t.Errorf("EncodeVarint(%d) = %q", n, got)
		}
	}
}

func TestDecodeVarintValues(t *testing.T) {
	for _, c := range []struct {
		s         string
		n, length int
	}{
		{"\x00", 0, 1},
		{"\x00\x00", 0, 1},
		{"\x7f\xff", 127, 1},
		{"\xac\x02", 300, 2},
		{"\xac\x02z", 300, 2},
		{"\x80\x80\x01\x80", 16384, 3},
		{"\xff\xff\xff\xff\xff\xff\x7f", impl.MaxVarint, 7},
		{"\xff\xff\xff\xff\xff\xff\x7f\xff", impl.MaxVarint, 7},
	} {
		if n, length := impl.DecodeVarint(c.s); n != c.n || length != c.length {
			t.Errorf("DecodeVarint(%q) = %d, %d, want %d, %d", c.s, n, length, c.n, c.length)
		}
	}
}

func TestDecodeVarintRejects(t *testing.T) {
	cutOff := []string{"", "\x80", "\xff\xff", "\xff\xff\xff\xff\xff\xff"}
	needless := []string{"\x80\x00", "\xff\x00", "\x80\x80\x00", "\xac\x82\x00", "\xff\xff\xff\xff\xff\xff\x00"}
	tooLong := []string{
		"\x80\x80\x80\x80\x80\x80\x80\x01",
		"\xff\xff\xff\xff\xff\xff\xff\x00",
		"\xff\xff\xff\xff\xff\xff\xff\xff\x7f",
		"\xff\xff\xff\xff\xff\xff\xff\xff\xff\x01",
		strings.Repeat("\x80", 100) + "\x01",
		strings.Repeat("\xff", 100),
	}
	for kind, list := range map[string][]string{"cut off": cutOff, "needless byte": needless, "too long": tooLong} {
		for _, s := range list {
			if n, length := impl.DecodeVarint(s); n != 0 || length != 0 {
				t.Errorf("%s: DecodeVarint(%q) = %d, %d", kind, s, n, length)
			}
		}
	}
	for _, s := range needless {
		if n, length := impl.DecodeVarint(s + "\x01"); n != 0 || length != 0 {
			t.Errorf("needless byte: DecodeVarint(%q) = %d, %d", s+"\x01", n, length)
		}
	}
}

func TestVarintIsInverse(t *testing.T) {
	for shift := range 50 {
		for _, n := range []int{1<<shift - 1, 1 << shift, 1<<shift + 1} {
			if n > impl.MaxVarint {
				continue
			}
			s := impl.EncodeVarint(n)
			for _, rest := range []string{"", "\x00", "\x80", "z\xff"} {
				if got, length := impl.DecodeVarint(s + rest); got != n || length != len(s) {
					t.Errorf("DecodeVarint(%q) = %d, %d, want %d, %d", s+rest, got, length, n, len(s))
				}
			}
		}
	}
}

// All varints of at most two bytes are those of the numbers below 2^14.
func TestDecodeVarintAcceptsNothingElse(t *testing.T) {
	numbers := map[string]int{}
	for n := range 1 << 14 {
		numbers[impl.EncodeVarint(n)] = n
	}
	everyString(everyByte(), 2, func(s string) {
		want, wantLength := 0, 0
		for length := 1; length <= len(s); length++ {
			if n, ok := numbers[s[:length]]; ok {
				want, wantLength = n, length
			}
		}
		if n, length := impl.DecodeVarint(s); n != want || length != wantLength {
			t.Errorf("DecodeVarint(%q) = %d, %d, want %d, %d", s, n, length, want, wantLength)
		}
	})
}

func TestHexValues(t *testing.T) {
	for _, c := range []struct{ s, hex string }{
		{"", ""},
		{"a\xff", "61ff"},
		{"\x00", "00"},
		{"\x09\x0a\x90\xa0", "090a90a0"},
		{"\xc3\xa9", "c3a9"},
		{"\x01\x23\x45\x67\x89\xab\xcd\xef", "0123456789abcdef"},
	} {
		if got := impl.EncodeHex(c.s); got != c.hex {
			t.Errorf("EncodeHex(%q) = %q, want %q", c.s, got, c.hex)
		}
		if got, ok := impl.DecodeHex(c.hex); got != c.s || !ok {
			t.Errorf("DecodeHex(%q) = %q, %v, want %q", c.hex, got, ok, c.s)
		}
	}
}

func TestDecodeHexRejects(t *testing.T) {
	for _, s := range []string{
		"6", "61f", "6F", "F6", "6g", "g6", "0x61", "+1", "-1", " 1", "1 ", "61 ", "61\n", "6/", "6:", "6`", "6@",
		"\xff\xff", "6\xff", "\xff6", "é", "61é", "é61", "٣", "1٣1", "１６", "61" + "\x00\x00",
	} {
		if got, ok := impl.DecodeHex(s); got != "" || ok {
			t.Errorf("DecodeHex(%q) = %q, %v", s, got, ok)
		}
	}
}

func TestHexIsInverse(t *testing.T) {
	all := everyByte()
	if got, ok := impl.DecodeHex(impl.EncodeHex(all)); got != all || !ok {
		t.Errorf("all bytes: %q, %v", got, ok)
	}
	bytes := map[string]string{"": ""}
	for i := range len(all) {
		bytes[impl.EncodeHex(all[i:i+1])] = all[i : i+1]
	}
	everyString(all, 2, func(s string) {
		want, wantOk := bytes[s]
		if got, ok := impl.DecodeHex(s); got != want || ok != wantOk {
			t.Errorf("DecodeHex(%q) = %q, %v, want %q, %v", s, got, ok, want, wantOk)
		}
	})
	everyString("09afgAF\xc3\xa9", 4, func(s string) {
		got, ok := impl.DecodeHex(s)
		if ok && impl.EncodeHex(got) != s || !ok && got != "" {
			t.Errorf("DecodeHex(%q) = %q, %v", s, got, ok)
		}
	})
}

func TestFormatIntValues(t *testing.T) {
	for _, c := range []struct {
		n    int
		want string
	}{
		{0, "0"},
		{7, "7"},
		{-7, "-7"},
		{10, "10"},
		{-120, "-120"},
		{999999999, "999999999"},
		{1000000000, "1000000000"},
		{math.MaxInt, "9223372036854775807"},
		{math.MinInt, "-9223372036854775808"},
		{math.MinInt + 1, "-9223372036854775807"},
	} {
		if got := impl.FormatInt(c.n); got != c.want {
			t.Errorf("FormatInt(%d) = %q, want %q", c.n, got, c.want)
		}
	}
}

func TestParseIntValues(t *testing.T) {
	for _, c := range []struct {
		s    string
		want int
	}{
		{"0", 0}, {"7", 7}, {"-7", -7}, {"10", 10}, {"123456789", 123456789},
		{"100000000", 100000000}, {"999999999", 999999999}, {"-999999999", -999999999},
	} {
		if got, ok := impl.ParseInt(c.s); got != c.want || !ok {
			t.Errorf("ParseInt(%q) = %d, %v", c.s, got, ok)
		}
	}
}

func TestParseIntRejects(t *testing.T) {
	for _, s := range []string{
		"", "-", "--1", "-0", "00", "01", "07", "-07", "+1", " 1", "1 ", "1\n", "1-", "1_0", "0x1", "1e3", "1.0",
		"1000000000", "-1000000000", "0999999999", "0000000001", "-0000000001",
		"9223372036854775807", "-9223372036854775808", "18446744073709551617",
		strings.Repeat("0", 100), strings.Repeat("9", 1000), "a", "/", ":", "\x00", "1\x00",
		"\xff", "1\xff", "é", "٣", "１", "1٣", "−1",
	} {
		if got, ok := impl.ParseInt(s); got != 0 || ok {
			t.Errorf("ParseInt(%q) = %d, %v", s, got, ok)
		}
	}
}

func TestIntIsInverse(t *testing.T) {
	for size := 1; size <= 999999999; size *= 3 {
		for _, n := range []int{size, size - 1, -size} {
			if got, ok := impl.ParseInt(impl.FormatInt(n)); got != n || !ok {
				t.Errorf("ParseInt(FormatInt(%d)) = %d, %v", n, got, ok)
			}
		}
	}
	numbers := map[string]int{}
	for n := -999; n <= 9999; n++ {
		numbers[strconv.Itoa(n)] = n
	}
	everyString("0123456789-+ a\xff", 4, func(s string) {
		want, wantOk := numbers[s]
		if got, ok := impl.ParseInt(s); got != want || ok != wantOk {
			t.Errorf("ParseInt(%q) = %d, %v, want %d, %v", s, got, ok, want, wantOk)
		}
	})
}
