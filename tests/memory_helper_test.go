package tests

import (
	"reflect"
	"testing"
)

// span is where a list lies, its spare room included.
type span struct {
	from, to uintptr
}

// spansOf is where all lists of a value lie, those in spare room too.
func spansOf(v reflect.Value) []span {
	var list []span
	switch v.Kind() {
	case reflect.Struct:
		for i := range v.NumField() {
			list = append(list, spansOf(v.Field(i))...)
		}
	case reflect.Slice:
		if v.Cap() > 0 {
			list = append(list, span{v.Pointer(), v.Pointer() + uintptr(v.Cap())*v.Type().Elem().Size()})
		}
		for i := range v.Cap() {
			list = append(list, spansOf(v.Slice(0, v.Cap()).Index(i))...)
		}
	}
	return list
}

// checkApart checks that all lists of an answer lie apart, from each other and from what was given.
func checkApart(t *testing.T, what string, got any, given ...any) {
	t.Helper()
	own := spansOf(reflect.ValueOf(got))
	var others []span
	for _, one := range given {
		others = append(others, spansOf(reflect.ValueOf(one))...)
	}
	for i, a := range own {
		for _, b := range append(own[:i:i], others...) {
			if a.from < b.to && b.from < a.to {
				t.Errorf("%s: a list shares memory", what)
			}
		}
	}
}

// withRoom is a copy whose lists all have spare room, in which something stands.
func withRoom[T any](v T) T {
	return roomyValue(reflect.ValueOf(v)).Interface().(T)
}

func roomyValue(v reflect.Value) reflect.Value {
	copied := reflect.New(v.Type()).Elem()
	switch v.Kind() {
	case reflect.Struct:
		for i := range v.NumField() {
			copied.Field(i).Set(roomyValue(v.Field(i)))
		}
	case reflect.Slice:
		copied.Set(reflect.MakeSlice(v.Type(), v.Len()+2, v.Len()+2))
		for i := range v.Len() {
			copied.Index(i).Set(roomyValue(v.Index(i)))
		}
		fillValue(copied.Index(v.Len()))
		fillValue(copied.Index(v.Len() + 1))
		return copied.Slice(0, v.Len())
	default:
		copied.Set(v)
	}
	return copied
}

func fillValue(v reflect.Value) {
	switch v.Kind() {
	case reflect.Struct:
		for i := range v.NumField() {
			fillValue(v.Field(i))
		}
	case reflect.Int:
		v.SetInt(55)
	case reflect.String:
		v.SetString("behind")
	case reflect.Bool:
		v.SetBool(true)
	}
}

// whole is a copy whose lists all are as long as they have room, to see what is written behind them.
func whole[T any](v T) T {
	return wholeValue(reflect.ValueOf(v)).Interface().(T)
}

func wholeValue(v reflect.Value) reflect.Value {
	copied := reflect.New(v.Type()).Elem()
	switch v.Kind() {
	case reflect.Struct:
		for i := range v.NumField() {
			copied.Field(i).Set(wholeValue(v.Field(i)))
		}
	case reflect.Slice:
		copied.Set(reflect.MakeSlice(v.Type(), v.Cap(), v.Cap()))
		for i := range v.Cap() {
			copied.Index(i).Set(wholeValue(v.Slice(0, v.Cap()).Index(i)))
		}
	default:
		copied.Set(v)
	}
	return copied
}

// checkStays checks that what was given is as it was, and what stands behind its lists too.
func checkStays[T any](t *testing.T, what string, given T, ahead T) {
	t.Helper()
	if !reflect.DeepEqual(whole(given), ahead) {
		t.Errorf("%s: what was given is changed", what)
	}
}
