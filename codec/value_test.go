package codec_test

import (
	"bytes"
	"math"
	"math/rand"
	"slices"
	"strings"
	"testing"

	"windlass/api"
	"windlass/codec"
)

func integer(n int64) api.Value { return api.Value{Kind: api.Int, Int: n} }

func text(s string) api.Value { return api.Value{Kind: api.Text, Text: s} }

func truth(n int64) api.Value { return api.Value{Kind: api.Bool, Int: n} }

func record(rec int, fields ...api.Value) api.Value {
	return api.Value{Kind: api.Record, Rec: rec, Fields: fields}
}

func same(v, w api.Value) bool {
	return v.Kind == w.Kind && v.Int == w.Int && v.Text == w.Text && v.Rec == w.Rec && slices.EqualFunc(v.Fields, w.Fields, same)
}

func sameEvent(e, f api.Event) bool {
	return e.Name == f.Name && slices.EqualFunc(e.Args, f.Args, same)
}

func wantValue(t *testing.T, v api.Value, want []byte) {
	t.Helper()
	b, e := codec.PutValue(v)
	if !bytes.Equal(b, want) || e != api.OK {
		t.Errorf("PutValue(%v): %s, %d, want %s, 0", v, hex(b), e, hex(want))
	}
	for _, behind := range behinds() {
		got, size, e := codec.Value(joined(want, behind))
		if !same(got, v) || size != len(want) || e != api.OK {
			t.Errorf("Value(%s and %s): %v, %d, %d, want %v, %d, 0", hex(want), hex(behind), got, size, e, v, len(want))
		}
	}
	for size := range want {
		wantNoValue(t, want[:size])
	}
}

func wantNoValue(t *testing.T, b []byte) {
	t.Helper()
	v, size, e := codec.Value(hidden(b))
	if !same(v, api.Value{}) || size != 0 || e != api.ErrCodecForm {
		t.Errorf("Value(%s): %v, %d, %d, want none, 0, 20", hex(b), v, size, e)
	}
}

func wantNotPlain(t *testing.T, v api.Value) {
	t.Helper()
	if b, e := codec.PutValue(v); len(b) != 0 || e != api.ErrCodecForm {
		t.Errorf("PutValue(%v): %s, %d, want none, 20", v, hex(b), e)
	}
	for _, e := range []api.Event{{Name: "e", Args: []api.Value{v}}, {Name: "e", Args: []api.Value{integer(1), v}}} {
		if b, err := codec.PutEvent(e); len(b) != 0 || err != api.ErrCodecForm {
			t.Errorf("PutEvent(%v): %s, %d, want none, 20", e, hex(b), err)
		}
	}
	if v.Kind == api.Record {
		return
	}
	if b, e := codec.PutValue(record(0, integer(1), v)); len(b) != 0 || e != api.ErrCodecForm {
		t.Errorf("PutValue of a record with %v: %s, %d, want none, 20", v, hex(b), e)
	}
}

func wantEvent(t *testing.T, e api.Event, want []byte) {
	t.Helper()
	b, err := codec.PutEvent(e)
	if !bytes.Equal(b, want) || err != api.OK {
		t.Errorf("PutEvent(%v): %s, %d, want %s, 0", e, hex(b), err, hex(want))
	}
	for _, behind := range behinds() {
		got, size, err := codec.Event(joined(want, behind))
		if !sameEvent(got, e) || size != len(want) || err != api.OK {
			t.Errorf("Event(%s and %s): %v, %d, %d, want %v, %d, 0", hex(want), hex(behind), got, size, err, e, len(want))
		}
	}
	for size := range want {
		wantNoEvent(t, want[:size])
	}
}

func wantNoEvent(t *testing.T, b []byte) {
	t.Helper()
	e, size, err := codec.Event(hidden(b))
	if !sameEvent(e, api.Event{}) || size != 0 || err != api.ErrCodecForm {
		t.Errorf("Event(%s): %v, %d, %d, want none, 0, 20", hex(b), e, size, err)
	}
}

// P2.3: plain values, with the edges of each kind.
func TestPlainValues(t *testing.T) {
	wantValue(t, integer(0), unhex("01 00"))
	wantValue(t, integer(-1), unhex("01 01"))
	wantValue(t, integer(math.MaxInt64), unhex("01 FE FF FF FF FF FF FF FF FF 01"))
	wantValue(t, integer(math.MinInt64), unhex("01 FF FF FF FF FF FF FF FF FF 01"))
	wantValue(t, text(""), unhex("02 00"))
	wantValue(t, text("a"), unhex("02 01 61"))
	wantValue(t, text("\x00\xFF"), unhex("02 02 00 FF"))
	long := strings.Repeat("z", api.MaxText)
	wantValue(t, text(long), append(unhex("02 40"), long...))
	wantValue(t, truth(0), unhex("03 00"))
	wantValue(t, truth(1), unhex("03 01"))
	wantValue(t, record(0), unhex("04 00 00"))
	wantValue(t, record(15), unhex("04 0F 00"))
	wantValue(t, record(7, integer(5), text("b"), truth(1)), unhex("04 07 03 01 0A 02 01 62 03 01"))
	twelve := record(15, slices.Repeat([]api.Value{truth(1)}, api.MaxItems)...)
	wantValue(t, twelve, append(unhex("04 0F 0C"), bytes.Repeat(unhex("03 01"), api.MaxItems)...))
	longs := record(1, slices.Repeat([]api.Value{text(long)}, api.MaxItems)...)
	wantValue(t, longs, append(unhex("04 01 0C"), bytes.Repeat(append(unhex("02 40"), long...), api.MaxItems)...))
}

// P2.3: kinds that are none, and values that have more in them than their kind has.
func TestNotPlain(t *testing.T) {
	for _, kind := range []int{api.None, -1, 5, 6, 255, 256, 257, 258, 259, 260, -255, math.MaxInt, math.MinInt} {
		wantNotPlain(t, api.Value{Kind: kind})
	}
	some := []api.Value{integer(1)}
	for _, v := range []api.Value{
		{Kind: api.Int, Text: "x"},
		{Kind: api.Int, Rec: 1},
		{Kind: api.Int, Rec: -1},
		{Kind: api.Int, Fields: some},
		{Kind: api.Text, Int: 1},
		{Kind: api.Text, Int: -1},
		{Kind: api.Text, Text: "a", Rec: 1},
		{Kind: api.Text, Fields: some},
		text(strings.Repeat("z", api.MaxText+1)),
		truth(2),
		truth(-1),
		truth(256),
		truth(math.MinInt64),
		{Kind: api.Bool, Text: "x"},
		{Kind: api.Bool, Int: 1, Rec: 1},
		{Kind: api.Bool, Fields: some},
	} {
		wantNotPlain(t, v)
	}
}

// P2.3: records that aren't plain.
func TestNotPlainRecords(t *testing.T) {
	for _, v := range []api.Value{
		record(-1),
		record(16),
		record(math.MaxInt),
		record(math.MinInt),
		{Kind: api.Record, Int: 1},
		{Kind: api.Record, Text: "x"},
		record(0, record(0)),
		record(0, integer(1), record(1, integer(1))),
		record(0, api.Value{}),
		record(3, slices.Repeat([]api.Value{integer(0)}, api.MaxItems+1)...),
		record(3, append(slices.Repeat([]api.Value{integer(0)}, api.MaxItems-1), text(strings.Repeat("z", api.MaxText+1)))...),
	} {
		wantNotPlain(t, v)
	}
	// A record that holds itself: it ends, for a record within a record isn't looked into.
	round := record(0, integer(1))
	round.Fields[0] = round
	if b, e := codec.PutValue(round); len(b) != 0 || e != api.ErrCodecForm {
		t.Errorf("PutValue of a record within itself: %s, %d", hex(b), e)
	}
}

// P2.3: bytes that no value has; a text that is too long is such, too.
func TestNoValue(t *testing.T) {
	for _, s := range []string{
		"", "00", "05 00", "06", "81 00", "FF", "82 01 61", "00 00",
		"01", "01 80 00", "01 FF FF FF FF FF FF FF FF FF 02",
		"02", "02 01", "02 81 00 61", "02 C1 01",
		"03", "03 02", "03 80", "03 81 00", "03 FF",
		"04", "04 00", "04 10 00", "04 80 00", "04 81 00 00", "04 80 80 80 80 80 80 80 80 80 01 00",
		"04 80 02 00", "04 00 80 00", "04 00 80", "04 00 0D",
		"04 00 01", "04 00 01 04 00 00", "04 00 02 01 00 04 00 00", "04 00 01 00", "04 00 02 01 00", "04 00 01 03 02",
		"04 00 80 80 80 80 80 80 80 80 80 01",
	} {
		wantNoValue(t, unhex(s))
	}
	long := bytes.Repeat([]byte{0x7A}, 200)
	wantNoValue(t, append(unhex("02 41"), long...))
	wantNoValue(t, append(unhex("02 C1 01"), long...))
	wantNoValue(t, append(unhex("04 00 01 02 41"), long...))
	wantNoValue(t, append(unhex("04 00 0D"), bytes.Repeat(unhex("01 00"), 13)...))
}

// P2.4: events, with the edges of their names and of how many arguments they have.
func TestEvents(t *testing.T) {
	wantEvent(t, api.Event{Name: "e"}, unhex("01 65 00"))
	wantEvent(t, api.Event{Name: "\x00"}, unhex("01 00 00"))
	name := strings.Repeat("n", api.MaxName)
	wantEvent(t, api.Event{Name: name}, append(append(unhex("14"), name...), 0))
	wantEvent(t, api.Event{Name: "ab", Args: []api.Value{record(2, truth(1)), integer(1), text("c"), truth(0)}},
		unhex("02 61 62 04 04 02 01 03 01 01 02 02 01 63 03 00"))
	twelve := slices.Repeat([]api.Value{integer(-3)}, api.MaxItems)
	wantEvent(t, api.Event{Name: "e", Args: twelve}, append(unhex("01 65 0C"), bytes.Repeat(unhex("01 05"), api.MaxItems)...))
	records := slices.Repeat([]api.Value{record(15, twelve...)}, api.MaxItems)
	each := append(unhex("04 0F 0C"), bytes.Repeat(unhex("01 05"), api.MaxItems)...)
	wantEvent(t, api.Event{Name: "e", Args: records}, append(unhex("01 65 0C"), bytes.Repeat(each, api.MaxItems)...))
}

// P2.4: what is no event.
func TestNoEvents(t *testing.T) {
	for _, e := range []api.Event{
		{},
		{Args: []api.Value{integer(1)}},
		{Name: strings.Repeat("n", api.MaxName+1)},
		{Name: strings.Repeat("n", api.MaxText+1)},
		{Name: "e", Args: slices.Repeat([]api.Value{integer(1)}, api.MaxItems+1)},
		{Name: "e", Args: []api.Value{record(0, record(0))}},
	} {
		if b, err := codec.PutEvent(e); len(b) != 0 || err != api.ErrCodecForm {
			t.Errorf("PutEvent(%v): %s, %d, want none, 20", e, hex(b), err)
		}
	}
	for _, s := range []string{
		"", "00", "00 00", "01", "01 65", "81 00 65 00", "02 65", "FF FF FF FF FF FF FF FF FF 02 00",
		"01 65 80 00", "01 65 0D", "01 65 01", "01 65 01 00", "01 65 01 05", "01 65 02 01 00", "01 65 01 04 00 01 04 00 00", "01 65 01 02 41",
	} {
		wantNoEvent(t, unhex(s))
	}
	wantNoEvent(t, append(append(unhex("15"), strings.Repeat("n", 21)...), 0))
	wantNoEvent(t, append(append(unhex("41"), strings.Repeat("n", 65)...), 0))
	wantNoEvent(t, append(unhex("C1 01"), bytes.Repeat([]byte{0}, 300)...))
	wantNoEvent(t, append(unhex("01 65 0D"), bytes.Repeat(unhex("01 05"), 13)...))
}

func someValue(r *rand.Rand, kinds int) api.Value {
	switch 1 + r.Intn(kinds) {
	case api.Int:
		return integer(int64(r.Uint64() >> r.Intn(64)))
	case api.Text:
		b := make([]byte, r.Intn(api.MaxText+1))
		r.Read(b)
		return text(string(b))
	case api.Bool:
		return truth(int64(r.Intn(2)))
	}
	v := record(r.Intn(16))
	for range r.Intn(api.MaxItems + 1) {
		v.Fields = append(v.Fields, someValue(r, api.Bool))
	}
	return v
}

// P2.5: all comes back, whatever stands behind.
func TestAllComesBack(t *testing.T) {
	r := rand.New(rand.NewSource(3))
	for range 5000 {
		e := api.Event{Name: strings.Repeat("n", 1+r.Intn(api.MaxName))}
		for range r.Intn(api.MaxItems + 1) {
			e.Args = append(e.Args, someValue(r, api.Record))
		}
		b, err := codec.PutEvent(e)
		got, size, readErr := codec.Event(joined(b, unhex("FF 00 80")))
		if err != api.OK || readErr != api.OK || size != len(b) || !sameEvent(got, e) {
			t.Fatalf("%v: %s, %d: %v, %d, %d", e, hex(b), err, got, size, readErr)
		}
		for _, v := range e.Args {
			b, err := codec.PutValue(v)
			got, size, readErr := codec.Value(joined(b, unhex("FF 00 80")))
			if err != api.OK || readErr != api.OK || size != len(b) || !same(got, v) {
				t.Fatalf("%v: %s, %d: %v, %d, %d", v, hex(b), err, got, size, readErr)
			}
		}
	}
}

func wantOneSpelling(t *testing.T, b []byte) {
	t.Helper()
	if v, size, e := codec.Value(b); e == api.OK {
		if back, e := codec.PutValue(v); e != api.OK || size > len(b) || !bytes.Equal(back, b[:size]) {
			t.Fatalf("Value(%s): %v, %d, whose bytes are %s, %d", hex(b), v, size, hex(back), e)
		}
	}
	if v, size, e := codec.Event(b); e == api.OK {
		if back, e := codec.PutEvent(v); e != api.OK || size > len(b) || !bytes.Equal(back, b[:size]) {
			t.Fatalf("Event(%s): %v, %d, whose bytes are %s, %d", hex(b), v, size, hex(back), e)
		}
	}
	if s, size, e := codec.Text(b); e == api.OK {
		if back := codec.PutText(s); size > len(b) || !bytes.Equal(back, b[:size]) {
			t.Fatalf("Text(%s): %q, %d, whose bytes are %s", hex(b), s, size, hex(back))
		}
	}
	if n, size, e := codec.Int(b); e == api.OK {
		if back := codec.PutInt(n); size > len(b) || !bytes.Equal(back, b[:size]) {
			t.Fatalf("Int(%s): %d, %d, whose bytes are %s", hex(b), n, size, hex(back))
		}
	}
}

// P2.5: nothing has two spellings: what is read from any bytes is written as these bytes.
func TestOneSpelling(t *testing.T) {
	for n := range 1 << 16 {
		wantOneSpelling(t, []byte{byte(n >> 8), byte(n)})
		wantOneSpelling(t, []byte{byte(n >> 8), byte(n), 0})
	}
	r := rand.New(rand.NewSource(4))
	near := []byte{0, 1, 2, 3, 4, 5, 12, 13, 15, 16, 20, 21, 64, 65, 127, 128, 129, 255}
	for range 300000 {
		b := make([]byte, r.Intn(12))
		for i := range b {
			b[i] = near[r.Intn(6)]
			if r.Intn(8) == 0 {
				b[i] = near[r.Intn(len(near))]
			}
		}
		wantOneSpelling(t, b)
	}
}

// P2.5: one byte of an event changed, taken out or put in.
func TestOneSpellingNearEvents(t *testing.T) {
	r := rand.New(rand.NewSource(5))
	for range 20000 {
		e := api.Event{Name: "ev", Args: []api.Value{someValue(r, api.Record), someValue(r, api.Record)}}
		b, _ := codec.PutEvent(e)
		at := r.Intn(len(b))
		switch r.Intn(3) {
		case 0:
			b[at] ^= 1 << r.Intn(8)
		case 1:
			b = slices.Delete(b, at, at+1)
		case 2:
			b = slices.Insert(b, at, byte(r.Intn(256)))
		}
		wantOneSpelling(t, b)
	}
}

// What is handed in isn't changed, nor what stands in the spare room behind it.
func TestHandedInStays(t *testing.T) {
	fields := []api.Value{integer(1), text("a"), truth(1)}
	args := []api.Value{record(1, fields[:2]...), integer(2), text("b")}
	codec.PutValue(args[0])
	codec.PutEvent(api.Event{Name: "e", Args: args[:1]})
	if !same(fields[2], truth(1)) || !same(args[1], integer(2)) || !same(args[0], record(1, integer(1), text("a"))) {
		t.Errorf("changed: %v, %v", fields, args)
	}
	all := unhex("01 65 01 04 01 02 01 02 02 01 61 07 07 07")
	b := slices.Clone(all)
	codec.Event(b[:11])
	codec.Value(b[3:11])
	codec.Text(b[:2])
	codec.Uint(b[:1])
	codec.Int(b[:1])
	if !bytes.Equal(b, all) {
		t.Errorf("changed: %s", hex(b))
	}
}

// What was handed in may be changed behind the call, and so may one answer, without a change to an answer.
func TestNothingShared(t *testing.T) {
	b := unhex("01 65 02 04 01 01 02 01 61 04 02 01 02 01 62")
	want := api.Event{Name: "e", Args: []api.Value{record(1, text("a")), record(2, text("b"))}}
	first, _, _ := codec.Event(b)
	second, _, _ := codec.Event(b)
	value, _, _ := codec.Value(b[3:])
	s, _, _ := codec.Text(b)
	for i := range b {
		b[i] = 0x55
	}
	_ = append(first.Args[0].Fields, integer(9))
	_ = append(first.Args[1].Fields, integer(9))
	_ = append(first.Args, integer(9))
	if !sameEvent(first, want) || !sameEvent(second, want) || !same(value, want.Args[0]) || s != "e" {
		t.Errorf("%v, %v, %v, %q", first, second, value, s)
	}
	first.Args[0].Fields[0] = integer(9)
	first.Args[1] = integer(9)
	if !sameEvent(second, want) || !same(value, want.Args[0]) {
		t.Errorf("%v, %v", second, value)
	}
	if !same(first.Args[0], record(1, integer(9))) {
		t.Errorf("%v", first)
	}
}

func writers() []func() []byte {
	v := record(1, text("a"))
	return []func() []byte{
		func() []byte { return codec.PutUint(300) },
		func() []byte { return codec.PutUint(0) },
		func() []byte { return codec.PutInt(-300) },
		func() []byte { return codec.PutText("abc") },
		func() []byte { b, _ := codec.PutValue(v); return b },
		func() []byte { b, _ := codec.PutEvent(api.Event{Name: "e", Args: []api.Value{v}}); return b },
	}
}

// Bytes that are answered, with the room behind them, are nobody else's.
func TestWrittenBytesAreNew(t *testing.T) {
	for i, write := range writers() {
		first, second := write(), write()
		want := slices.Clone(second)
		room := first[:cap(first)]
		for k := range room {
			room[k] = 0x55
		}
		if !bytes.Equal(second, want) || !bytes.Equal(write(), want) {
			t.Errorf("writer %d: %s, want %s", i, hex(second), hex(want))
		}
	}
}
