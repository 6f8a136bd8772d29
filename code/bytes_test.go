package code_test

import (
	"bytes"
	"math"
	"math/rand"
	"reflect"
	"slices"
	"testing"

	"windlass/api"
	"windlass/code"
	"windlass/codec"
)

// every: a code with each instruction in it.
func every() api.Code {
	c := sample()
	k := maker{rand.New(rand.NewSource(94))}
	seen := map[int]int{}
	for len(seen) < api.IRet {
		o := k.op(c, c.Funcs[0])
		if seen[o.Code] == 0 {
			c.Funcs[2].Ops = append(c.Funcs[2].Ops, o)
		}
		seen[o.Code]++
	}
	return c
}

func encoded(t *testing.T, c api.Code) []byte {
	t.Helper()
	b, err := code.Encode(c)
	if err != api.OK {
		t.Fatalf("%v: %d", c, err)
	}
	return b
}

// wantDecoded: that b is refused, or is what Encode tells of the answer.
func wantDecoded(t *testing.T, what string, b []byte) bool {
	t.Helper()
	c, err := code.Decode(b)
	if err != api.OK {
		if err != api.ErrCodeForm || !reflect.DeepEqual(full(c), full(api.Code{})) {
			t.Errorf("%s: %x: %d, %v", what, b, err, c)
		}
		return false
	}
	if again, err := code.Encode(c); err != api.OK || !bytes.Equal(again, b) || !code.Is(c) {
		t.Errorf("%s: %x is taken for %v, which is %x: %d", what, b, c, again, err)
	}
	return true
}

func wantRefused(t *testing.T, what string, b []byte) {
	t.Helper()
	if wantDecoded(t, what, b) {
		t.Errorf("%s: %x is taken", what, b)
	}
}

// P9.4, P9.5: all comes back.
func TestThereAndBack(t *testing.T) {
	k := maker{rand.New(rand.NewSource(95))}
	codes := []api.Code{{}, sample(), every()}
	for range 3000 {
		codes = append(codes, k.code())
	}
	for _, c := range codes {
		b := encoded(t, c)
		d, err := code.Decode(b)
		if err != api.OK || !code.Same(c, d) || !reflect.DeepEqual(full(c), full(d)) {
			t.Errorf("%v comes back as %v: %d", c, d, err)
		}
		if !bytes.Equal(b, encoded(t, d)) {
			t.Errorf("%v: bytes of two kinds", c)
		}
	}
}

// P9.4: codes that differ in anything have other bytes.
func TestUnlikeBytes(t *testing.T) {
	k := maker{rand.New(rand.NewSource(96))}
	differ := 0
	for range 3000 {
		c := k.code()
		b := encoded(t, c)
		other := full(c)
		k.spoil(&other)
		if d, err := code.Encode(other); err == api.OK {
			if bytes.Equal(b, d) != reflect.DeepEqual(full(c), full(other)) {
				t.Errorf("%v and %v: %x and %x", c, other, b, d)
			}
			differ++
		}
	}
	if differ < 100 {
		t.Errorf("only %d were held against each other", differ)
	}
}

// P9.4: bytes that are cut, or have more behind.
func TestCutBytes(t *testing.T) {
	k := maker{rand.New(rand.NewSource(97))}
	for _, c := range []api.Code{{}, sample(), every(), k.code(), k.code(), k.code()} {
		b := encoded(t, c)
		for n := range b {
			// What is missing stands in the spare room, and isn't looked at.
			wantRefused(t, "cut", b[:n])
			wantRefused(t, "cut, without room", slices.Clip(slices.Clone(b[:n])))
		}
		for more := range 256 {
			wantRefused(t, "one more", append(slices.Clone(b), byte(more)))
		}
		wantRefused(t, "twice", slices.Concat(b, b))
		wantRefused(t, "one ahead", slices.Concat([]byte{0}, b))
	}
	wantRefused(t, "nothing", nil)
	wantRefused(t, "nothing", []byte{})
}

// P9.4, P9.5: bytes of which one is changed, left out or put in.
func TestChangedBytes(t *testing.T) {
	k := maker{rand.New(rand.NewSource(98))}
	taken := 0
	codes := []api.Code{{}, every()}
	for range 4 {
		codes = append(codes, k.code())
	}
	for _, c := range codes {
		b := encoded(t, c)
		for n := range b {
			for value := range 256 {
				changed := slices.Clone(b)
				changed[n] = byte(value)
				if wantDecoded(t, "changed", changed) && !bytes.Equal(changed, b) {
					taken++
				}
			}
			wantDecoded(t, "left out", slices.Delete(slices.Clone(b), n, n+1))
			wantDecoded(t, "put in", slices.Insert(slices.Clone(b), n, byte(k.Intn(256))))
			wantDecoded(t, "put twice", slices.Insert(slices.Clone(b), n, b[n]))
		}
	}
	if taken < 100 {
		t.Errorf("only %d changed ones are taken", taken)
	}
}

// P9.5: a number that is spelt with a byte too many.
func TestLongSpellings(t *testing.T) {
	k := maker{rand.New(rand.NewSource(99))}
	codes := []api.Code{{}, every()}
	for range 50 {
		codes = append(codes, k.code())
	}
	for _, c := range codes {
		b := encoded(t, c)
		for n := range b {
			for extra := range 3 {
				long := slices.Concat(b[:n], []byte{b[n] | 0x80}, bytes.Repeat([]byte{0x80}, extra), []byte{0}, b[n+1:])
				wantDecoded(t, "spelt long", long)
			}
		}
	}
	wantRefused(t, "no code, spelt long", []byte{0x80, 0, 0, 0, 0, 0, 0})
}

// P9.5: whatever bytes: they are refused, or are what Encode tells.
func TestWhateverBytes(t *testing.T) {
	k := rand.New(rand.NewSource(100))
	taken := 0
	for n := range 200000 {
		b := make([]byte, n%24)
		for i := range b {
			b[i] = byte(k.Intn(1 + k.Intn(4)*k.Intn(80)))
		}
		if wantDecoded(t, "whatever", b) {
			taken++
		}
	}
	if taken == 0 {
		t.Error("none was taken")
	}
}

// P9.5: beginnings of codes with whatever bytes behind, and pieces of two codes.
func TestMixedBytes(t *testing.T) {
	k := maker{rand.New(rand.NewSource(101))}
	for range 20000 {
		b, d := encoded(t, k.code()), encoded(t, k.code())
		at := k.Intn(len(b))
		wantDecoded(t, "mixed", slices.Concat(b[:at], d[min(at, len(d)):]))
		tail := make([]byte, k.Intn(40))
		k.Read(tail)
		wantDecoded(t, "a tail", slices.Concat(b[:at], tail))
		for range k.Intn(4) {
			b[k.Intn(len(b))] = byte(k.Intn(256))
		}
		wantDecoded(t, "scratched", b)
	}
}

// P9.5: numbers that are far too great wherever one may stand: nothing is counted up to them.
func TestGreatNumbers(t *testing.T) {
	b := encoded(t, every())
	for n := range b {
		for _, number := range []uint64{13, 17, 1001, 2001, 4002, 1 << 31, 1 << 32, 1<<33 + 2, 1 << 62, 1 << 63, math.MaxUint64, math.MaxUint64 - 1} {
			wantDecoded(t, "a great number", slices.Concat(b[:n], codec.PutUint(number), b[n+1:]))
			wantDecoded(t, "a great number, and nothing behind", slices.Concat(b[:n], codec.PutUint(number)))
		}
		wantDecoded(t, "no number", slices.Concat(b[:n], bytes.Repeat([]byte{0xFF}, 11), b[n+1:]))
	}
}

// P9.4: code that isn't code has no bytes, also where its bytes could be written.
func TestEncodeOfNoCode(t *testing.T) {
	for _, o := range []api.Op{{}, {Code: 41}, {Code: api.ICharge, K: 1}, {Code: api.IJump, K: 7}, {Code: api.IMove, D: -1}, {Code: api.IRet, A: -2}} {
		if b, err := code.Encode(with(o)); err != api.ErrCodeForm || len(b) > 0 {
			t.Errorf("%v: %x, %d", o, b, err)
		}
	}
	k := maker{rand.New(rand.NewSource(102))}
	for range 2000 {
		c := k.code()
		k.spoil(&c)
		b, err := code.Encode(c)
		if (err == api.OK) != model(c) || err != api.OK && (err != api.ErrCodeForm || len(b) > 0) {
			t.Errorf("%v: %x, %d", c, b, err)
		}
	}
}

// P9.4: the bytes of what isn't code, written as those of code are, are refused.
func TestDecodeOfNoCode(t *testing.T) {
	c := api.Code{Program: api.Program{Events: []api.Sig{{Name: "e"}}}, Ints: []int64{77}, Events: []api.Fn{{Regs: 33, Ops: []api.Op{{Code: api.IMove, D: 21, A: 32}}}}}
	b := encoded(t, c)
	if !wantDecoded(t, "as it is", b) {
		t.Fatalf("%x is refused", b)
	}
	for what, change := range map[string][2]int{"a register": {32, 33}, "a register below 0": {21, -1}, "no instruction": {api.IMove, 41}, "registers": {33, 65}, "fewer registers": {33, 32}} {
		old, next := codec.PutInt(int64(change[0])), codec.PutInt(int64(change[1]))
		if bytes.Count(b, old) != 1 {
			t.Fatalf("%x: not one %x", b, old)
		}
		wantRefused(t, what, bytes.Replace(b, old, next, 1))
	}
	if !wantDecoded(t, "another integer", bytes.Replace(b, codec.PutInt(77), codec.PutInt(math.MinInt64), 1)) {
		t.Error("another integer is refused")
	}
}
