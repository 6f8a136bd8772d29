package code_test

import (
	"iter"
	"math"
	"reflect"

	"windlass/api"
)

// parts hands on all numbers, texts and lists that hang on a value, to be changed, each with its field's name.
func parts(v reflect.Value, name string) iter.Seq2[string, reflect.Value] {
	return func(yield func(string, reflect.Value) bool) {
		walk(v, name, yield)
	}
}

func walk(v reflect.Value, name string, yield func(string, reflect.Value) bool) bool {
	switch v.Kind() {
	case reflect.Struct:
		for i := range v.NumField() {
			if !walk(v.Field(i), v.Type().Field(i).Name, yield) {
				return false
			}
		}
		return true
	case reflect.Slice:
		for i := range v.Len() {
			if !walk(v.Index(i), name, yield) {
				return false
			}
		}
	}
	return yield(name, v)
}

// spoil changes a number, a text or a list, or two.
func (k maker) spoil(c *api.Code) {
	for range 1 + k.Intn(2) {
		var all []reflect.Value
		for _, v := range parts(reflect.ValueOf(c).Elem(), "") {
			all = append(all, v)
		}
		k.change(all[k.Intn(len(all))])
	}
}

func (k maker) change(v reflect.Value) {
	switch v.Kind() {
	case reflect.String:
		v.SetString([]string{"", "a", "b1", "R0", "R9", v.String() + "x", v.String() + "?"}[k.Intn(7)])
	case reflect.Slice:
		k.changeList(v)
	default:
		n := v.Int()
		v.SetInt([]int64{n + 1, n - 1, n + 2, -1, 0, 1, 2, 11, 12, 40, 41, 64, 65, math.MaxInt64, math.MinInt64}[k.Intn(15)])
	}
}

// changeList makes it shorter, or longer by one of its elements or by a zero.
func (k maker) changeList(v reflect.Value) {
	zero := reflect.Zero(v.Type().Elem())
	switch {
	case v.Len() == 0 || k.Intn(4) == 0:
		v.Set(reflect.Append(v, zero))
	case k.Intn(2) == 0:
		v.SetLen(v.Len() - 1)
	default:
		v.Set(reflect.Append(v, v.Index(k.Intn(v.Len()))))
	}
}
