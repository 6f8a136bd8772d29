package emit_test

import (
	"fmt"
	"reflect"
	"strconv"
	"strings"
)

// shown: all that hangs on a value; a nil list and an empty one are shown alike.
func shown(x any) string {
	var out strings.Builder
	show(reflect.ValueOf(x), &out)
	return out.String()
}

func show(v reflect.Value, out *strings.Builder) {
	switch v.Kind() {
	case reflect.Slice:
		out.WriteString("[")
		for i := range v.Len() {
			show(v.Index(i), out)
		}
		out.WriteString("]")
	case reflect.Struct:
		out.WriteString("{")
		for i := range v.NumField() {
			var field strings.Builder
			if show(v.Field(i), &field); !v.Field(i).IsZero() && field.String() != "[]" && field.String() != "{}" {
				out.WriteString(v.Type().Field(i).Name + ":" + field.String())
			}
		}
		out.WriteString("}")
	case reflect.String:
		out.WriteString(strconv.Quote(v.String()) + " ")
	case reflect.Int, reflect.Int64:
		out.WriteString(strconv.FormatInt(v.Int(), 10) + " ")
	default:
		out.WriteString(fmt.Sprint(v) + " ")
	}
}
