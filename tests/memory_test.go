package tests

import (
	"fmt"
	"reflect"
	"testing"
)

// calling calls the function f and fails the test if it panics.
func calling(t *testing.T, name string, f any, args []any) []any {
	defer func() {
		if r := recover(); r != nil {
			t.Fatalf("%s%v panics: %v", name, args, r)
		}
	}()
	in := []reflect.Value{}
	for _, a := range args {
		in = append(in, reflect.ValueOf(a))
	}
	out := []any{}
	for _, r := range reflect.ValueOf(f).Call(in) {
		out = append(out, r.Interface())
	}
	return out
}

// rebuilt returns new memory with the same value, with spare elements behind each slice that would pass for valid ones.
func rebuilt(v reflect.Value, spare int) reflect.Value {
	switch v.Kind() {
	case reflect.Slice:
		if v.IsNil() && spare == 0 {
			return reflect.Zero(v.Type())
		}
		s := reflect.MakeSlice(v.Type(), v.Len()+spare, v.Len()+spare)
		for i := range v.Len() {
			s.Index(i).Set(rebuilt(v.Index(i), spare))
		}
		for i := range spare {
			s.Index(v.Len() + i).Set(filler(v.Type().Elem()))
		}
		return s.Slice(0, v.Len())
	case reflect.Struct:
		s := reflect.New(v.Type()).Elem()
		for i := range v.NumField() {
			s.Field(i).Set(rebuilt(v.Field(i), spare))
		}
		return s
	}
	return v
}

func filler(t reflect.Type) reflect.Value {
	v := reflect.New(t).Elem()
	switch t.Kind() {
	case reflect.Int:
		v.SetInt(3)
	case reflect.String:
		v.SetString("6.9")
	case reflect.Struct:
		for i := range t.NumField() {
			v.Field(i).Set(filler(t.Field(i).Type))
		}
	case reflect.Slice:
		v.Set(reflect.Append(v, filler(t.Elem())))
	}
	return v
}

// slicesIn calls visit with each slice of the value; within spare capacity too, if whole.
func slicesIn(v reflect.Value, whole bool, visit func(s reflect.Value)) {
	switch v.Kind() {
	case reflect.Slice:
		visit(v)
		if whole && v.Cap() > 0 {
			v = v.Slice(0, v.Cap())
		}
		for i := range v.Len() {
			slicesIn(v.Index(i), whole, visit)
		}
	case reflect.Struct:
		for i := range v.NumField() {
			slicesIn(v.Field(i), whole, visit)
		}
	}
}

// inside writes out a value with what stands in the spare capacity of its slices.
func inside(values []any) string {
	text := fmt.Sprint(values)
	for _, a := range values {
		slicesIn(reflect.ValueOf(a), true, func(s reflect.Value) {
			text += fmt.Sprint(" ", s.Len(), s.Slice(0, s.Cap()).Interface())
		})
	}
	return text
}

type stretch struct {
	first, end uintptr
}

// memoryOf returns the memory of each slice of the values, with its spare capacity.
func memoryOf(values []any, whole bool) []stretch {
	list := []stretch{}
	for _, a := range values {
		slicesIn(reflect.ValueOf(a), whole, func(s reflect.Value) {
			if size := uintptr(s.Cap()) * s.Type().Elem().Size(); size > 0 {
				list = append(list, stretch{s.Pointer(), s.Pointer() + size})
			}
		})
	}
	return list
}

func meet(a, b stretch) bool {
	return a.first < b.end && b.first < a.end
}

// wantOwnMemory checks that no slice of the results shares memory with another one or with an argument.
func wantOwnMemory(t *testing.T, what string, args, results []any) {
	own, others := memoryOf(results, false), memoryOf(args, true)
	for i, a := range own {
		for _, b := range own[:i] {
			if meet(a, b) {
				t.Fatalf("%s: two slices of the result share memory", what)
			}
		}
		for _, b := range others {
			if meet(a, b) {
				t.Fatalf("%s: the result shares memory with an argument", what)
			}
		}
	}
}

// overwrite puts other numbers into all slices of the results.
func overwrite(results []any) {
	for _, r := range results {
		slicesIn(reflect.ValueOf(r), false, func(s reflect.Value) {
			for i := range s.Len() {
				s.Index(i).Set(filler(s.Type().Elem()))
			}
		})
	}
}

// wantCleanCall checks promise 35 for one call: no panic, no changed argument, no shared memory, nothing read behind a slice, nothing kept from call to call, and zero values where it fails.
func wantCleanCall(t *testing.T, name string, f any, args []any) {
	what := fmt.Sprint(name, args)
	tight, roomy := []any{}, []any{}
	for _, a := range args {
		tight = append(tight, rebuilt(reflect.ValueOf(a), 0).Interface())
		roomy = append(roomy, rebuilt(reflect.ValueOf(a), 2).Interface())
	}
	want := calling(t, name, f, tight)
	text := fmt.Sprint(want)
	before := inside(roomy)
	got := calling(t, name, f, roomy)
	if inside(roomy) != before {
		t.Fatalf("%s: an argument is changed", what)
	}
	if fmt.Sprint(got) != text {
		t.Fatalf("%s: the result depends on what is behind a slice", what)
	}
	wantOwnMemory(t, what, tight, want)
	wantOwnMemory(t, what, roomy, got)
	overwrite(got)
	if inside(roomy) != before || fmt.Sprint(want) != text {
		t.Fatalf("%s: a result is joined with an argument or with another result", what)
	}
	if again := calling(t, name, f, roomy); fmt.Sprint(again) != text {
		t.Fatalf("%s: the second call returns %v, the first %s", what, again, text)
	}
	if ok, is := want[len(want)-1].(bool); is && !ok {
		refused(t, what, want...)
	}
}

// everyCall checks the function with each choice of arguments of its types.
func everyCall(t *testing.T, name string, f any, choices map[reflect.Type][]any) {
	lists := [][]any{}
	for i := range reflect.TypeOf(f).NumIn() {
		list := choices[reflect.TypeOf(f).In(i)]
		if len(list) == 0 {
			t.Fatalf("%s: no arguments for parameter %d", name, i)
		}
		lists = append(lists, list)
	}
	args := make([]any, len(lists))
	var choose func(i int)
	choose = func(i int) {
		if i == len(lists) {
			wantCleanCall(t, name, f, args)
			return
		}
		for _, a := range lists[i] {
			args[i] = a
			choose(i + 1)
		}
	}
	choose(0)
}
