package huff

import (
	"bytes"
	"encoding/hex"
	"math/rand"
	"strings"
	"testing"

	"bifold/api"
)

// rfc: codes of RFC 7541's appendix B, from each of its lengths and from the ends of its table.
func rfc() map[byte]string {
	return map[byte]string{
		'0': "00000", '1': "00001", '2': "00010", 'a': "00011", 'c': "00100", 'e': "00101", 'i': "00110", 'o': "00111", 's': "01000", 't': "01001",
		' ': "010100", '%': "010101", '-': "010110", '.': "010111", '/': "011000", '3': "011001", '=': "100000", 'A': "100001", 'u': "101101",
		':': "1011100", 'B': "1011101", 'z': "1111011",
		'&': "11111000", '*': "11111001", ',': "11111010", ';': "11111011", 'X': "11111100", 'Z': "11111101",
		'!': "1111111000", '"': "1111111001", '(': "1111111010", ')': "1111111011", '?': "1111111100",
		'\'': "11111111010", '+': "11111111011", '|': "11111111100",
		'#': "111111111010", '>': "111111111011",
		0: "1111111111000", '$': "1111111111001", '@': "1111111111010", '[': "1111111111011", ']': "1111111111100", '~': "1111111111101",
		'^': "11111111111100", '}': "11111111111101",
		'<': "111111111111100", '`': "111111111111101", '{': "111111111111110",
		'\\': "1111111111111110000", 195: "1111111111111110001", 208: "1111111111111110010",
		128: "11111111111111100110", 130: "11111111111111100111",
		153: "111111111111111011100",
		129: "1111111111111111010010", 132: "1111111111111111010011",
		1: "11111111111111111011000",
		9: "111111111111111111101010", 142: "111111111111111111101011",
		199: "1111111111111111111101100",
		192: "11111111111111111111100000", 255: "11111111111111111111101110",
		203: "111111111111111111111011110",
		2:   "1111111111111111111111100010", 127: "1111111111111111111111111100", 220: "1111111111111111111111111101", 249: "1111111111111111111111111110",
		10: "111111111111111111111111111100", 13: "111111111111111111111111111101", 22: "111111111111111111111111111110",
	}
}

// digits: c's code, as text.
func digits(c byte) string {
	word, n := Bits(c)
	s := ""
	for i := n - 1; i >= 0; i-- {
		s += string(rune('0' + word>>i&1))
	}
	return s
}

// pack: the bytes of these bits, filled up with ones.
func pack(bits string) []byte {
	for len(bits)%8 != 0 {
		bits += "1"
	}
	var b []byte
	for i := 0; i < len(bits); i += 8 {
		x := byte(0)
		for _, d := range bits[i : i+8] {
			x = x<<1 | byte(d-'0')
		}
		b = append(b, x)
	}
	return b
}

func random(r *rand.Rand, most int) string {
	b := make([]byte, r.Intn(most+1))
	for i := range b {
		b[i] = byte(r.Intn(256))
		if r.Intn(2) == 0 {
			b[i] = "0123456789abcdefghijklmnopqrstuvwxyz-"[r.Intn(37)]
		}
	}
	return string(b)
}

func unhex(t *testing.T, s string) []byte {
	b, err := hex.DecodeString(strings.ReplaceAll(s, " ", ""))
	if err != nil {
		t.Fatal(err)
	}
	return b
}

func TestBitsOfRFC(t *testing.T) { // P2.1
	for c, want := range rfc() {
		if got := digits(c); got != want {
			t.Errorf("Bits(%d): %s, not %s", c, got, want)
		}
	}
}

func TestCodeIsCanonical(t *testing.T) { // P2.1
	type one struct {
		sign int
		code string
	}
	var all []one
	for length := 1; length <= 30; length++ {
		for c := range 256 {
			if code := digits(byte(c)); len(code) == length {
				all = append(all, one{c, code})
			}
		}
	}
	all = append(all, one{256, strings.Repeat("1", 30)})
	if len(all) != 257 || all[0].code != "00000" {
		t.Fatalf("%d codes, the first one %s", len(all), all[0].code)
	}
	for i := 1; i < len(all); i++ {
		ahead, this := all[i-1], all[i]
		word := uint64(0)
		for _, d := range ahead.code {
			word = word<<1 | uint64(d-'0')
		}
		word = (word + 1) << (len(this.code) - len(ahead.code))
		got := uint64(0)
		for _, d := range this.code {
			got = got<<1 | uint64(d-'0')
		}
		if got != word {
			t.Errorf("sign %d: %x, not %x", this.sign, got, word)
		}
	}
}

func TestLengthsAsListed(t *testing.T) { // P2.1
	listed := map[int]int{5: 10, 6: 26, 7: 32, 8: 6, 10: 5, 11: 3, 12: 2, 13: 6, 14: 2, 15: 3, 19: 3, 20: 8, 21: 13, 22: 26, 23: 29, 24: 12, 25: 4, 26: 15, 27: 19, 28: 29, 30: 3}
	got := map[int]int{}
	for c := range 256 {
		_, n := Bits(byte(c))
		got[n]++
	}
	for n := range 64 {
		if got[n] != listed[n] {
			t.Errorf("%d bits: %d bytes, not %d", n, got[n], listed[n])
		}
	}
}

func TestEncodeOfRFC(t *testing.T) { // P2.2
	for s, want := range map[string]string{
		"":                              "",
		"a":                             "1f",
		"www.example.com":               "f1e3 c2e5 f23a 6ba0 ab90 f4ff",
		"no-cache":                      "a8eb 1064 9cbf",
		"custom-key":                    "25a8 49e9 5ba9 7d7f",
		"custom-value":                  "25a8 49e9 5bb8 e8b4 bf",
		"302":                           "6402",
		"307":                           "640e ff",
		"private":                       "aec3 771a 4b",
		"Mon, 21 Oct 2013 20:13:21 GMT": "d07a be94 1054 d444 a820 0595 040b 8166 e082 a62d 1bff",
		"https://www.example.com":       "9d29 ad17 1863 c78f 0b97 c8e9 ae82 ae43 d3",
		"gzip":                          "9bd9 ab",
		"foo=ASDJKHQKBZXOQWEOPIUAXQWEOIU; max-age=3600; version=1": "94e7 821d d7f2 e6c7 b335 dfdf cd5b 3960 d5af 2708 7f36 72c1 ab27 0fb5 291f 9587 3160 65c0 03ed 4ee5 b106 3d50 07",
		"\n":               "ffff fff3",
		"\x16\x16\x16\x16": "ffff fffb ffff ffef ffff ffbf ffff fe",
		"00000000":         "0000 0000 00",
	} {
		b := unhex(t, want)
		if got := Encode(nil, s); !bytes.Equal(got, b) {
			t.Errorf("Encode(nil, %q): %x, not %x", s, got, b)
		}
		if got := Encode([]byte("xyz"), s); string(got) != "xyz"+string(b) {
			t.Errorf("Encode(xyz, %q): %x, not xyz and %x", s, got, b)
		}
		if n := Len(s); n != len(b) {
			t.Errorf("Len(%q): %d, not %d", s, n, len(b))
		}
		if got, e := Decode(b); got != s || e != api.OK {
			t.Errorf("Decode(%x): %q, %v", b, got, e)
		}
	}
}

func TestEncodePutsCodesOfBits(t *testing.T) { // P2.2
	r := rand.New(rand.NewSource(1))
	for range 2000 {
		s := random(r, 40)
		bits := ""
		for i := range len(s) {
			bits += digits(s[i])
		}
		want := pack(bits)
		if got := Encode(nil, s); !bytes.Equal(got, want) {
			t.Fatalf("Encode(nil, %q): %x, not %x", s, got, want)
		}
		if n := Len(s); n != len(want) {
			t.Fatalf("Len(%q): %d, not %d", s, n, len(want))
		}
	}
}

func TestDecodeFilling(t *testing.T) { // P2.2
	// "0" takes 5 bits, "00000000" 40; what is left behind is of 0 to 7 bits, all ones.
	for n := 0; n <= 8; n++ {
		s := strings.Repeat("0", n)
		bits := strings.Repeat("0", 5*n)
		if got, e := Decode(pack(bits)); got != s || e != api.OK {
			t.Errorf("%d noughts: %q, %v", n, got, e)
		}
		whole := pack(bits)
		if got, e := Decode(append(whole, 0xff)); got != "" || e != api.ErrHuff {
			t.Errorf("%d noughts and a byte of ones more: %q, %v", n, got, e)
		}
	}
	for _, b := range []string{
		"ff",        // 8 bits left
		"ffff",      // 16
		"ffffff",    // 24
		"1fff",      // a, and 11 left
		"00",        // 0, and 000 left
		"18",        // a, and 000
		"19",        // a, and 001
		"1b",        // a, and 011
		"1d",        // a, and 101
		"1e",        // a, and 110
		"f0",        // 8 left, not all ones
		"fe",        // the same
		"50",        // a space, and 00
		"51",        // and 01
		"52",        // and 10
		"b8",        // a colon, and 0
		"fffffe",    // 24 left, not all ones
		"ffffff00",  // a code of 28 bits, and 0000
		"ffff fff0", // the code of 10, and 00
		"ffff fff1", // and 01
		"ffff fff2", // and 10
	} {
		if got, e := Decode(unhex(t, b)); got != "" || e != api.ErrHuff {
			t.Errorf("Decode(%s): %q, %v", b, got, e)
		}
	}
	if got, e := Decode([]byte{0x53}); got != " " || e != api.OK { // a space, and 11
		t.Errorf("a space: %q, %v", got, e)
	}
}

func TestDecodeSeven(t *testing.T) { // P2.2
	// A length of which 1 is left over 8 leaves 7 bits: a 13-bit code and four of 5 are 33.
	s := "\x00" + "0000"
	b := Encode(nil, s)
	if len(b) != 5 || b[4] != 0x7f {
		t.Fatalf("Encode: %x", b)
	}
	if got, e := Decode(b); got != s || e != api.OK {
		t.Errorf("7 ones left: %q, %v", got, e)
	}
	for i := range 7 {
		bad := bytes.Clone(b)
		bad[4] ^= 1 << i
		got, e := Decode(bad)
		if e == api.OK && !bytes.Equal(Encode(nil, got), bad) || e != api.OK && (got != "" || e != api.ErrHuff) {
			t.Errorf("Decode(%x): %q, %v", bad, got, e)
		}
	}
}

func TestDecodeEnd(t *testing.T) { // P2.2
	end := strings.Repeat("1", 30)
	for _, ahead := range []string{"", "a", "www", "\x00\xff", strings.Repeat("0", 100)} {
		bits := ""
		for i := range len(ahead) {
			bits += digits(ahead[i])
		}
		for _, behind := range []string{"", "00011", "00000000", strings.Repeat("00000", 5000)} {
			b := pack(bits + end + behind)
			if got, e := Decode(b); got != "" || e != api.ErrHuff {
				t.Errorf("%d bytes, the end, %d bits: %q, %v", len(ahead), len(behind), got, e)
			}
		}
	}
	for n := 1; n < 40; n++ {
		if got, e := Decode(bytes.Repeat([]byte{0xff}, n)); got != "" || e != api.ErrHuff {
			t.Errorf("%d bytes of ones: %q, %v", n, got, e)
		}
	}
}

func TestDecodeLong(t *testing.T) { // P2.2
	most := strings.Repeat("00000", api.MaxStr) // a whole number of bytes
	end := strings.Repeat("1", 30)
	whole := strings.Repeat("0", api.MaxStr)
	for _, x := range []struct {
		what, bits, want string
		e                api.Errno
	}{
		{"the most", most, whole, api.OK},
		{"one less", most[5:], whole[1:], api.OK},
		{"one more", most + "00000", "", api.ErrLong},
		{"one more, of 30 bits", most + "111111111111111111111111111100", "", api.ErrLong},
		{"many more", most + most, "", api.ErrLong},
		{"the most, and 8 ones", most + "11111111", "", api.ErrHuff},
		{"the most, and a beginning", most + "11111110", "", api.ErrHuff},
		{"the most, and the end", most + end, "", api.ErrHuff},
		{"the most, the end, and one more", most + end + "00000", "", api.ErrHuff},
		{"one more, and the end", most + "00000" + end, "", api.ErrLong},
		{"one more, noughts left", most + "00000" + "000", "", api.ErrLong},
		{"one more, and 11 ones", most + "00000" + "11111111111", "", api.ErrLong},
		{"one less, and the end", most[5:] + end + most, "", api.ErrHuff},
		{"the most, the last one of 6 bits, 7 left", most[5:] + "010100" + "1111110", "", api.ErrHuff},
	} {
		got, e := Decode(pack(x.bits))
		if got != x.want || e != x.e {
			t.Errorf("%s: %d bytes, %v", x.what, len(got), e)
		}
	}
	long := strings.Repeat("\n", api.MaxStr) // the longest codes
	if got, e := Decode(Encode(nil, long)); got != long || e != api.OK {
		t.Errorf("the most in the longest codes: %d bytes, %v", len(got), e)
	}
	if got, e := Decode(Encode(nil, long+"\n")); got != "" || e != api.ErrLong {
		t.Errorf("one more in the longest codes: %d bytes, %v", len(got), e)
	}
}

func TestEncodeHasNoMost(t *testing.T) { // P2.2
	s := strings.Repeat("0", 8*api.MaxStr)
	if b := Encode(nil, s); !bytes.Equal(b, make([]byte, 5*api.MaxStr)) || Len(s) != 5*api.MaxStr {
		t.Errorf("%d bytes, Len %d", len(b), Len(s))
	}
}

func TestDecodeOfAnyBytes(t *testing.T) { // P2.2
	codes := map[string]byte{}
	for c := range 256 {
		codes[digits(byte(c))] = byte(c)
	}
	r := rand.New(rand.NewSource(2))
	seen := map[api.Errno]int{}
	for range 20000 {
		b := make([]byte, r.Intn(8))
		for i := range b {
			b[i] = byte(r.Intn(256))
			if r.Intn(3) == 0 {
				b[i] = 0xff
			}
		}
		want, word := "", ""
		for _, x := range b {
			for i := 7; i >= 0; i-- {
				word += string(rune('0' + x>>i&1))
				if c, ok := codes[word]; ok {
					want, word = want+string([]byte{c}), ""
				}
			}
		}
		wantE := api.OK
		if len(word) >= 8 || strings.Contains(word, "0") {
			want, wantE = "", api.ErrHuff
		}
		if got, e := Decode(b); got != want || e != wantE {
			t.Fatalf("Decode(%x): %q, %v, not %q, %v", b, got, e, want, wantE)
		}
		seen[wantE]++
	}
	if seen[api.OK] < 100 || seen[api.ErrHuff] < 100 {
		t.Errorf("not all answers seen: %v", seen)
	}
}

func TestReadBack(t *testing.T) { // P2.3
	all := make([]byte, 256)
	for c := range all {
		all[c] = byte(c)
		one := string([]byte{byte(c)})
		if got, e := Decode(Encode(nil, one)); got != one || e != api.OK {
			t.Errorf("%q: %q, %v", one, got, e)
		}
	}
	if got, e := Decode(Encode(nil, string(all))); got != string(all) || e != api.OK {
		t.Errorf("all bytes: %q, %v", got, e)
	}
	r := rand.New(rand.NewSource(3))
	for i := range 2000 {
		s := random(r, 60)
		if i%100 == 0 {
			s = random(r, api.MaxStr)
		}
		if got, e := Decode(Encode(nil, s)); got != s || e != api.OK {
			t.Fatalf("%q: %q, %v", s, got, e)
		}
	}
	for _, b := range [][]byte{nil, {}} {
		if got, e := Decode(b); got != "" || e != api.OK {
			t.Errorf("nothing: %q, %v", got, e)
		}
	}
	if b := Encode(nil, ""); len(b) != 0 {
		t.Errorf("Encode of nothing: %x", b)
	}
}

func TestWhatIsHandedInStays(t *testing.T) { // DOC.md, what holds everywhere, 3
	all := bytes.Repeat([]byte{0xa5}, 64)
	kept := func() bool { return bytes.Equal(all, bytes.Repeat([]byte{0xa5}, 64)) }
	for _, s := range []string{"", "a", "www.example.com"} {
		answer := Encode(all[:3], s)
		if !kept() {
			t.Errorf("Encode(.., %q) has written on what was handed in", s)
		}
		clear(answer[:cap(answer)])
		if !kept() {
			t.Errorf("Encode(.., %q): the answer isn't new memory", s)
		}
	}
	b := Encode(nil, "www.example.com")
	was := bytes.Clone(b)
	s, _ := Decode(b)
	if !bytes.Equal(b, was) {
		t.Errorf("Decode has changed what was handed in")
	}
	clear(b)
	if s != "www.example.com" {
		t.Errorf("Decode's answer hangs on what was handed in")
	}
	cut := Encode(nil, "\n")[:3] // what stands in the spare room isn't b's
	if got, e := Decode(cut); got != "" || e != api.ErrHuff {
		t.Errorf("Decode of spare room: %q, %v", got, e)
	}
}
