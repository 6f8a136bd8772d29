package codec_test

import (
	"bytes"
	"math"
	"math/big"
	"math/rand"
	"strings"
	"testing"

	"windlass/api"
	"windlass/codec"
)

// hex is written with blanks between the bytes, as in the chapter.
func hex(b []byte) string {
	const digits = "0123456789ABCDEF"
	var parts []string
	for _, c := range b {
		parts = append(parts, string([]byte{digits[c>>4], digits[c&15]}))
	}
	return strings.Join(parts, " ")
}

func unhex(s string) []byte {
	var b []byte
	for _, part := range strings.Fields(s) {
		n, _ := new(big.Int).SetString(part, 16)
		b = append(b, byte(n.Int64()))
	}
	return b
}

// behinds: what may stand behind, which no reader looks at.
func behinds() [][]byte {
	return [][]byte{nil, {0}, {0x80}, {0xFF}, {1, 1}, {4, 0, 1, 4}, bytes.Repeat([]byte{0xFF}, 20)}
}

func joined(b, behind []byte) []byte { return append(append([]byte(nil), b...), behind...) }

// hidden: what stands in the spare room behind b isn't read either, and b ends where it ends.
func hidden(b []byte) []byte { return joined(b, bytes.Repeat([]byte{1}, 100))[:len(b)] }

func wantUint(t *testing.T, n uint64, want string) {
	t.Helper()
	b := codec.PutUint(n)
	if hex(b) != want {
		t.Errorf("PutUint(%d): %s, want %s", n, hex(b), want)
	}
	for _, behind := range behinds() {
		got, size, e := codec.Uint(joined(b, behind))
		if got != n || size != len(b) || e != api.OK {
			t.Errorf("Uint(%s and %s): %d, %d, %d, want %d, %d, 0", hex(b), hex(behind), got, size, e, n, len(b))
		}
	}
}

func wantNoUint(t *testing.T, b []byte) {
	t.Helper()
	n, size, e := codec.Uint(hidden(b))
	if n != 0 || size != 0 || e != api.ErrCodecForm {
		t.Errorf("Uint(%s): %d, %d, %d, want 0, 0, 20", hex(b), n, size, e)
	}
	i, size, e := codec.Int(hidden(b))
	if i != 0 || size != 0 || e != api.ErrCodecForm {
		t.Errorf("Int(%s): %d, %d, %d, want 0, 0, 20", hex(b), i, size, e)
	}
	s, size, e := codec.Text(hidden(b))
	if s != "" || size != 0 || e != api.ErrCodecForm {
		t.Errorf("Text(%s): %q, %d, %d, want none, 0, 20", hex(b), s, size, e)
	}
}

func wantInt(t *testing.T, n int64, want string) {
	t.Helper()
	b := codec.PutInt(n)
	if hex(b) != want {
		t.Errorf("PutInt(%d): %s, want %s", n, hex(b), want)
	}
	for _, behind := range behinds() {
		got, size, e := codec.Int(joined(b, behind))
		if got != n || size != len(b) || e != api.OK {
			t.Errorf("Int(%s and %s): %d, %d, %d, want %d, %d, 0", hex(b), hex(behind), got, size, e, n, len(b))
		}
	}
}

// P2.1: numbers from 0 on, at the edges of their bytes.
func TestUint(t *testing.T) {
	wantUint(t, 0, "00")
	wantUint(t, 1, "01")
	wantUint(t, 127, "7F")
	wantUint(t, 128, "80 01")
	wantUint(t, 255, "FF 01")
	wantUint(t, 300, "AC 02")
	wantUint(t, 1<<14-1, "FF 7F")
	wantUint(t, 1<<14, "80 80 01")
	wantUint(t, 1<<32, "80 80 80 80 10")
	wantUint(t, 1<<63-1, "FF FF FF FF FF FF FF FF 7F")
	wantUint(t, 1<<63, "80 80 80 80 80 80 80 80 80 01")
	wantUint(t, math.MaxUint64, "FF FF FF FF FF FF FF FF FF 01")
}

// P2.1: numbers of both signs.
func TestInt(t *testing.T) {
	wantInt(t, 0, "00")
	wantInt(t, -1, "01")
	wantInt(t, 1, "02")
	wantInt(t, -2, "03")
	wantInt(t, 63, "7E")
	wantInt(t, -64, "7F")
	wantInt(t, 64, "80 01")
	wantInt(t, -65, "81 01")
	wantInt(t, math.MaxInt64, "FE FF FF FF FF FF FF FF FF 01")
	wantInt(t, math.MinInt64, "FF FF FF FF FF FF FF FF FF 01")
	wantInt(t, math.MinInt64+1, "FD FF FF FF FF FF FF FF FF 01")
}

// P2.1, P2.2: bytes that no number has.
func TestNoNumber(t *testing.T) {
	for _, n := range []uint64{0, 127, 128, 300, 1 << 14, 1 << 63, math.MaxUint64} {
		b := codec.PutUint(n)
		for size := range b {
			wantNoUint(t, b[:size])
		}
	}
	for _, s := range []string{
		"80 00",
		"FF 00",
		"80 80 00",
		"80 80 80 80 80 80 80 80 80 00",
		"FF FF FF FF FF FF FF FF FF 02",
		"80 80 80 80 80 80 80 80 80 02",
		"80 80 80 80 80 80 80 80 80 03",
		"80 80 80 80 80 80 80 80 80 7F",
		"80 80 80 80 80 80 80 80 80 80 01",
		"81 80 80 80 80 80 80 80 80 81 00",
		"FF FF FF FF FF FF FF FF FF 81 01",
		"80 80 80 80 80 80 80 80 80 80 00",
		"FF FF FF FF FF FF FF FF FF FF",
	} {
		wantNoUint(t, unhex(s))
	}
	wantNoUint(t, bytes.Repeat([]byte{0x80}, 1000))
	wantNoUint(t, append(bytes.Repeat([]byte{0x80}, 1000), 1))
}

// readBig is Uint by the chapter's words, with numbers of any size.
func readBig(b []byte) (uint64, int, bool) {
	n, size := new(big.Int), 0
	for {
		if size == len(b) {
			return 0, 0, false
		}
		seven := new(big.Int).SetUint64(uint64(b[size] % 128))
		n.Add(n, seven.Lsh(seven, uint(7*size)))
		size++
		if b[size-1] < 128 {
			break
		}
	}
	if size > 1 && b[size-1] == 0 || !n.IsUint64() {
		return 0, 0, false
	}
	return n.Uint64(), size, true
}

func wantLikeBig(t *testing.T, b []byte) {
	t.Helper()
	want, wantSize, ok := readBig(b)
	n, size, e := codec.Uint(b)
	if n != want || size != wantSize || (e == api.OK) != ok || e != api.OK && e != api.ErrCodecForm {
		t.Fatalf("Uint(%s): %d, %d, %d, want %d, %d, %t", hex(b), n, size, e, want, wantSize, ok)
	}
	if ok && !bytes.Equal(codec.PutUint(n), b[:size]) {
		t.Fatalf("%s, too, is read as %d", hex(b[:size]), n)
	}
}

// P2.1, P2.5: all short rows of bytes, and long ones that change near the greatest number.
func TestUintAgainstBigNumbers(t *testing.T) {
	for n := range 1 << 16 {
		wantLikeBig(t, []byte{byte(n >> 8)})
		wantLikeBig(t, []byte{byte(n >> 8), byte(n)})
		wantLikeBig(t, []byte{byte(n>>8) | 0x80, byte(n)})
		wantLikeBig(t, []byte{0x85, byte(n >> 8), byte(n)})
	}
	r := rand.New(rand.NewSource(1))
	for range 100000 {
		b := make([]byte, r.Intn(14))
		for i := range b {
			b[i] = byte(r.Intn(256)) | 0x80
			if r.Intn(4) == 0 {
				b[i] = [...]byte{0x80, 0xFF, 0x81, 0, 1, 2, 0x7F}[r.Intn(7)]
			}
		}
		wantLikeBig(t, b)
	}
}

// P2.1, P2.5: numbers of every length come back.
func TestNumbersComeBack(t *testing.T) {
	r := rand.New(rand.NewSource(2))
	for range 50000 {
		n := r.Uint64() >> r.Intn(64)
		b := codec.PutUint(n)
		if got, size, e := codec.Uint(b); got != n || size != len(b) || e != api.OK {
			t.Fatalf("%d: %s: %d, %d, %d", n, hex(b), got, size, e)
		}
		for _, i := range []int64{int64(n), -int64(n)} {
			b := codec.PutInt(i)
			if got, size, e := codec.Int(b); got != i || size != len(b) || e != api.OK {
				t.Fatalf("%d: %s: %d, %d, %d", i, hex(b), got, size, e)
			}
		}
	}
}

// P2.2: texts are written at any length, and read up to MaxText.
func TestText(t *testing.T) {
	for _, s := range []string{"", "a", "\x00\xFF\x80", "é", strings.Repeat("z", 63), strings.Repeat("\xFF", api.MaxText)} {
		b := codec.PutText(s)
		if want := append([]byte{byte(len(s))}, s...); !bytes.Equal(b, want) {
			t.Errorf("PutText(%q): %s, want %s", s, hex(b), hex(want))
		}
		for _, behind := range behinds() {
			got, size, e := codec.Text(joined(b, behind))
			if got != s || size != len(b) || e != api.OK {
				t.Errorf("Text(%s and %s): %q, %d, %d", hex(b), hex(behind), got, size, e)
			}
		}
		for size := range b {
			if got, n, e := codec.Text(hidden(b[:size])); got != "" || n != 0 || e != api.ErrCodecForm {
				t.Errorf("Text(%s): %q, %d, %d, want none, 0, 20", hex(b[:size]), got, n, e)
			}
		}
	}
	for _, length := range []int{65, 127, 128, 300, 100000} {
		s := strings.Repeat("x", length)
		b := codec.PutText(s)
		if want := append(codec.PutUint(uint64(length)), s...); !bytes.Equal(b, want) {
			t.Errorf("PutText of %d bytes: %d bytes that are others", length, len(b))
		}
		if got, n, e := codec.Text(b); got != "" || n != 0 || e != api.ErrCodecLong {
			t.Errorf("Text of %d bytes: %d bytes, %d, %d, want none, 0, 21", length, len(got), n, e)
		}
	}
}

// P2.2: the number's error comes first, then that it is too long, then that it ends.
func TestTextErrors(t *testing.T) {
	for s, want := range map[string]api.Errno{
		"":                              api.ErrCodecForm,
		"C1":                            api.ErrCodecForm,
		"C1 00":                         api.ErrCodecForm,
		"C1 80 00":                      api.ErrCodecForm,
		"FF FF FF FF FF FF FF FF FF 02": api.ErrCodecForm,
		"40":                            api.ErrCodecForm,
		"41":                            api.ErrCodecLong,
		"41 61":                         api.ErrCodecLong,
		"C1 01":                         api.ErrCodecLong,
		"80 80 80 80 08":                api.ErrCodecLong,
		"80 80 80 80 80 80 80 80 80 01": api.ErrCodecLong,
		"FF FF FF FF FF FF FF FF FF 01": api.ErrCodecLong,
	} {
		if got, n, e := codec.Text(hidden(unhex(s))); got != "" || n != 0 || e != want {
			t.Errorf("Text(%s): %q, %d, %d, want none, 0, %d", s, got, n, e, want)
		}
	}
}
