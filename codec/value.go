package codec

import (
	"windlass/api"
)

// PutValue: see the chapter.
func PutValue(v api.Value) ([]byte, api.Errno) {
	if !isPlain(v) {
		return nil, api.ErrCodecForm
	}
	return appendValue(nil, v), api.OK
}

func isPlain(v api.Value) bool {
	if v.Kind != api.Record {
		return isSimple(v)
	}
	if v.Int != 0 || v.Text != "" || v.Rec < 0 || v.Rec > maxRec || len(v.Fields) > api.MaxItems {
		return false
	}
	for _, field := range v.Fields {
		if !isSimple(field) {
			return false
		}
	}
	return true
}

// isSimple: whether it is a plain value that isn't a record.
func isSimple(v api.Value) bool {
	if v.Rec != 0 || len(v.Fields) > 0 {
		return false
	}
	switch v.Kind {
	case api.Int:
		return v.Text == ""
	case api.Text:
		return v.Int == 0 && len(v.Text) <= api.MaxText
	case api.Bool:
		return v.Text == "" && (v.Int == 0 || v.Int == 1)
	}
	return false
}

// appendValue takes a plain value.
func appendValue(b []byte, v api.Value) []byte {
	b = append(b, byte(v.Kind))
	switch v.Kind {
	case api.Int:
		return appendInt(b, v.Int)
	case api.Text:
		return appendText(b, v.Text)
	case api.Bool:
		return append(b, byte(v.Int))
	}
	return appendRow(appendUint(b, uint64(v.Rec)), v.Fields)
}

// appendRow takes plain values.
func appendRow(b []byte, values []api.Value) []byte {
	b = appendUint(b, uint64(len(values)))
	for _, v := range values {
		b = appendValue(b, v)
	}
	return b
}

// Value: see the chapter.
func Value(b []byte) (api.Value, int, api.Errno) {
	if len(b) == 0 || b[0] != api.Record {
		return simple(b)
	}
	rec, size, err := Uint(b[1:])
	if err != api.OK || rec > maxRec {
		return api.Value{}, 0, api.ErrCodecForm
	}
	at := 1 + size
	fields, size, err := row(b[at:], simple)
	if err != api.OK {
		return api.Value{}, 0, err
	}
	return api.Value{Kind: api.Record, Rec: int(rec), Fields: fields}, at + size, api.OK
}

// simple reads what isn't a record.
func simple(b []byte) (api.Value, int, api.Errno) {
	if len(b) == 0 {
		return api.Value{}, 0, api.ErrCodecForm
	}
	v, size, err := api.Value{Kind: int(b[0])}, 0, api.OK
	switch v.Kind {
	case api.Int:
		v.Int, size, err = Int(b[1:])
	case api.Text:
		v.Text, size, err = Text(b[1:])
	case api.Bool:
		v.Int, size, err = truth(b[1:])
	default:
		err = api.ErrCodecForm
	}
	if err != api.OK {
		// A text that is too long is one that no value encodes.
		return api.Value{}, 0, api.ErrCodecForm
	}
	return v, 1 + size, api.OK
}

func truth(b []byte) (int64, int, api.Errno) {
	if len(b) == 0 || b[0] > 1 {
		return 0, 0, api.ErrCodecForm
	}
	return int64(b[0]), 1, api.OK
}

// row reads how many there are, and each of them by one.
func row(b []byte, one func([]byte) (api.Value, int, api.Errno)) ([]api.Value, int, api.Errno) {
	count, at, err := Uint(b)
	if err != api.OK || count > api.MaxItems {
		return nil, 0, api.ErrCodecForm
	}
	var values []api.Value
	for range int(count) {
		v, size, err := one(b[at:])
		if err != api.OK {
			return nil, 0, err
		}
		values = append(values, v)
		at += size
	}
	return values, at, api.OK
}
