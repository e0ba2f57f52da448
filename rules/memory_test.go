package rules_test

import (
	"fmt"
	"reflect"
	"strings"
)

// roomy returns a copy of a value, in which each slice has elements beyond its
// length.
func roomy(v reflect.Value) reflect.Value {
	c := reflect.New(v.Type()).Elem()
	switch v.Kind() {
	case reflect.Struct:
		for k := range v.NumField() {
			c.Field(k).Set(roomy(v.Field(k)))
		}
	case reflect.Array:
		for k := range v.Len() {
			c.Index(k).Set(roomy(v.Index(k)))
		}
	case reflect.Slice:
		wide := reflect.MakeSlice(v.Type(), v.Len()+2, v.Len()+2)
		for k := range v.Len() {
			wide.Index(k).Set(roomy(v.Index(k)))
		}
		fill(wide.Index(v.Len()))
		fill(wide.Index(v.Len() + 1))
		c.Set(wide.Slice(0, v.Len()))
	default:
		c.Set(v)
	}
	return c
}

// fill stores values that no valid argument has.
func fill(v reflect.Value) {
	switch v.Kind() {
	case reflect.Struct:
		for k := range v.NumField() {
			fill(v.Field(k))
		}
	case reflect.Array:
		for k := range v.Len() {
			fill(v.Index(k))
		}
	case reflect.Int:
		v.SetInt(777)
	case reflect.String:
		v.SetString("beyond")
	}
}

// eachSlice calls do for all slices in a value, extended to their capacities.
func eachSlice(v reflect.Value, do func(l reflect.Value)) {
	switch v.Kind() {
	case reflect.Struct:
		for k := range v.NumField() {
			eachSlice(v.Field(k), do)
		}
	case reflect.Slice:
		v = v.Slice(0, v.Cap())
		do(v)
		for k := range v.Len() {
			eachSlice(v.Index(k), do)
		}
	}
}

// memory returns all memory that values reach, as a string.
func memory(values []reflect.Value) string {
	var b strings.Builder
	for _, v := range values {
		fmt.Fprintf(&b, "%v", v)
		eachSlice(v, func(l reflect.Value) { fmt.Fprintf(&b, ";%v", l) })
	}
	return b.String()
}

// apart reports whether each slice of the results has memory of its own, also
// apart from the arguments.
func apart(results []any, arguments []reflect.Value) bool {
	type space struct{ from, to uintptr }
	var taken []space
	each := func(v reflect.Value, do func(s space)) {
		eachSlice(v, func(l reflect.Value) {
			if l.Len() > 0 {
				do(space{l.Pointer(), l.Pointer() + uintptr(l.Len())*l.Type().Elem().Size()})
			}
		})
	}
	for _, v := range arguments {
		each(v, func(s space) { taken = append(taken, s) })
	}
	alone := true
	for _, v := range results {
		each(reflect.ValueOf(v), func(s space) {
			for _, other := range taken {
				alone = alone && (s.to <= other.from || other.to <= s.from)
			}
			taken = append(taken, s)
		})
	}
	return alone
}

// empty reports whether a value is its zero value, or has nothing but empty
// slices in the place of nil.
func empty(v any) bool {
	return fmt.Sprintf("%+v", v) == fmt.Sprintf("%+v", reflect.Zero(reflect.TypeOf(v)))
}
