package tests

import (
	"fmt"
	"reflect"
	"strings"
	"testing"
)

// A call names a function of the document and arguments for it.
type call struct {
	name string
	fn   any
	args []any
}

func callOf(name string, fn any, args ...any) call { return call{name, fn, args} }

func (c call) String() string {
	shown := make([]string, len(c.args))
	for i, a := range c.args {
		shown[i] = render(reflect.ValueOf(a), false)
	}
	return c.name + "(" + strings.Join(shown, "; ") + ")"
}

// withArg returns the call with another argument at place i.
func (c call) withArg(i int, arg any) call {
	args := append([]any{}, c.args...)
	args[i] = arg
	return call{c.name, c.fn, args}
}

// results calls the function and reports a panic as an error of the test.
func (c call) results(t *testing.T, args []reflect.Value) (out []reflect.Value) {
	t.Helper()
	defer func() {
		if p := recover(); p != nil {
			t.Fatalf("%v panics: %v", c, p)
		}
	}()
	return reflect.ValueOf(c.fn).Call(args)
}

func (c call) values() []reflect.Value {
	values := make([]reflect.Value, len(c.args))
	for i, a := range c.args {
		values[i] = reflect.ValueOf(a)
	}
	return values
}

// mustFail checks that every result is zero; empty slices count as zero.
func (c call) mustFail(t *testing.T) {
	t.Helper()
	for i, v := range c.results(t, c.values()) {
		if !isZero(v) {
			t.Fatalf("%v: result %d is %s, want zero", c, i, render(v, false))
		}
	}
}

// mustKeepArguments checks that a call changes nothing, hands nothing out and keeps nothing: its arguments have spare room that is filled with junk.
func (c call) mustKeepArguments(t *testing.T) {
	t.Helper()
	args := roomyAll(c.values(), -12345)
	before := renderAll(args, true)
	results := c.results(t, args)
	if renderAll(args, true) != before {
		t.Fatalf("%v changes an argument", c)
	}
	want := renderAll(results, false)
	leaves := leafSlices(results)
	for i, leaf := range leaves {
		others := renderOthers(leaves, i)
		scribble(leaf)
		if renderOthers(leaves, i) != others {
			t.Fatalf("%v: two slices of its results share memory", c)
		}
	}
	for _, s := range allSlices(results) {
		scribble(s)
	}
	if renderAll(args, true) != before {
		t.Fatalf("%v: a result shares memory with an argument", c)
	}
	again := roomyAll(c.values(), 1)
	if got := renderAll(c.results(t, again), false); got != want {
		t.Fatalf("%v returns first %s, then %s", c, want, got)
	}
}

func isZero(v reflect.Value) bool {
	if v.Kind() == reflect.Slice {
		return v.Len() == 0
	}
	if v.Kind() == reflect.Struct {
		for i := range v.NumField() {
			if !isZero(v.Field(i)) {
				return false
			}
		}
		return true
	}
	return v.IsZero()
}

// render shows a value; nil and empty slices look the same, and whole shows the spare room, too.
func render(v reflect.Value, whole bool) string {
	switch v.Kind() {
	case reflect.Slice:
		n := v.Len()
		if whole {
			n = v.Cap()
			v = v.Slice(0, n)
		}
		parts := make([]string, n)
		for i := range n {
			parts[i] = render(v.Index(i), whole)
		}
		return "[" + strings.Join(parts, " ") + "]"
	case reflect.Struct:
		parts := make([]string, v.NumField())
		for i := range parts {
			parts[i] = render(v.Field(i), whole)
		}
		return "{" + strings.Join(parts, " ") + "}"
	case reflect.String:
		return fmt.Sprintf("%.80q", v.String())
	}
	return fmt.Sprint(v.Interface())
}

func renderAll(values []reflect.Value, whole bool) string {
	parts := make([]string, len(values))
	for i, v := range values {
		parts[i] = render(v, whole)
	}
	return strings.Join(parts, "; ")
}

func renderOthers(values []reflect.Value, without int) string {
	var others []reflect.Value
	others = append(others, values[:without]...)
	others = append(others, values[without+1:]...)
	return renderAll(others, true)
}

// roomy copies a value so that each slice in it has spare room, which is filled with junk.
func roomy(v reflect.Value, filler int) reflect.Value {
	switch v.Kind() {
	case reflect.Slice:
		n := v.Len()
		out := reflect.MakeSlice(v.Type(), n+2, n+2)
		for i := range n {
			out.Index(i).Set(roomy(v.Index(i), filler))
		}
		out.Index(n).Set(junk(v.Type().Elem(), filler))
		out.Index(n + 1).Set(junk(v.Type().Elem(), filler))
		return out.Slice(0, n)
	case reflect.Struct:
		out := reflect.New(v.Type()).Elem()
		for i := range v.NumField() {
			out.Field(i).Set(roomy(v.Field(i), filler))
		}
		return out
	}
	return v
}

func roomyAll(values []reflect.Value, filler int) []reflect.Value {
	out := make([]reflect.Value, len(values))
	for i, v := range values {
		out[i] = roomy(v, filler)
	}
	return out
}

func junk(t reflect.Type, filler int) reflect.Value {
	out := reflect.New(t).Elem()
	switch t.Kind() {
	case reflect.Int:
		out.SetInt(int64(filler))
	case reflect.String:
		out.SetString("junk")
	case reflect.Bool:
		out.SetBool(true)
	case reflect.Slice:
		out.Set(reflect.Append(out, junk(t.Elem(), filler)))
	case reflect.Struct:
		for i := range t.NumField() {
			out.Field(i).Set(junk(t.Field(i).Type, filler))
		}
	}
	return out
}

// scribble overwrites a slice and the room behind it.
func scribble(s reflect.Value) {
	s = s.Slice(0, s.Cap())
	for i := range s.Len() {
		s.Index(i).Set(junk(s.Type().Elem(), 77777))
	}
}

// allSlices returns the slices in values, inner ones before outer ones.
func allSlices(values []reflect.Value) []reflect.Value {
	var found []reflect.Value
	for _, v := range values {
		switch v.Kind() {
		case reflect.Slice:
			for i := range v.Len() {
				found = append(found, allSlices([]reflect.Value{v.Index(i)})...)
			}
			found = append(found, v)
		case reflect.Struct:
			for i := range v.NumField() {
				found = append(found, allSlices([]reflect.Value{v.Field(i)})...)
			}
		}
	}
	return found
}

// leafSlices returns the slices in values in which there are no others.
func leafSlices(values []reflect.Value) []reflect.Value {
	var leaves []reflect.Value
	for _, s := range allSlices(values) {
		if e := s.Type().Elem().Kind(); e != reflect.Slice && e != reflect.Struct {
			leaves = append(leaves, s)
		}
	}
	return leaves
}
