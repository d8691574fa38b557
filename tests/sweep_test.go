package tests

import (
	"cmp"
	"fmt"
	"reflect"
	"slices"
	"testing"
)

// The sweep calls functions with all combinations of arguments from a pool, and checks promise 1 for each call.

// pool has the arguments to be tried for each type of parameter.
type pool map[reflect.Type][]any

func poolOf(lists ...any) pool {
	p := pool{}
	for _, list := range lists {
		v := reflect.ValueOf(list)
		for i := range v.Len() {
			p[v.Type().Elem()] = append(p[v.Type().Elem()], v.Index(i).Interface())
		}
	}
	return p
}

// sweep calls fn with all combinations; each call is looked at by the given check, too.
func (p pool) sweep(t *testing.T, name string, fn any, check func(args, results []any) string) {
	t.Helper()
	f := reflect.ValueOf(fn)
	choice := make([]int, f.Type().NumIn())
	for {
		args := make([]any, len(choice))
		for i, c := range choice {
			args[i] = p[f.Type().In(i)][c]
		}
		results, fault := pureCall(f, args)
		if fault == "" {
			fault = check(args, results)
		}
		if fault != "" {
			t.Errorf("%s(%.300s): %s", name, fmt.Sprintf("%#v", args), fault)
			return
		}
		i := 0
		for ; i < len(choice); i++ {
			choice[i]++
			if choice[i] < len(p[f.Type().In(i)]) {
				break
			}
			choice[i] = 0
		}
		if i == len(choice) {
			return
		}
	}
}

// pureCall returns the results of a call, and what is wrong with it, if it is not a pure one.
func pureCall(f reflect.Value, args []any) (results []any, fault string) {
	defer func() {
		if x := recover(); x != nil {
			fault = fmt.Sprint("panics: ", x)
		}
	}()
	roomy := rebuilt(args, 3)
	before := whole(roomy)
	once := f.Call(roomy)
	if !reflect.DeepEqual(whole(roomy), before) {
		return nil, "an argument has been modified"
	}
	if overlaps(roomy, once) {
		return nil, "memory is shared"
	}
	for _, again := range [][]reflect.Value{f.Call(roomy), f.Call(rebuilt(args, 0))} {
		for i := range once {
			if !alike(once[i], again[i]) {
				return nil, fmt.Sprintf("different results: %v and %v", once[i], again[i])
			}
		}
	}
	for _, v := range once {
		results = append(results, v.Interface())
	}
	return results, ""
}

// rebuilt returns deep copies in which each slice has some unused capacity, with something in it, or none; without it, empty slices are nil.
func rebuilt(args []any, room int) []reflect.Value {
	var list []reflect.Value
	for _, a := range args {
		list = append(list, rebuild(reflect.ValueOf(a), room))
	}
	return list
}

func rebuild(v reflect.Value, room int) reflect.Value {
	switch v.Kind() {
	case reflect.Slice:
		if v.Len() == 0 && room == 0 {
			return reflect.Zero(v.Type())
		}
		s := reflect.MakeSlice(v.Type(), v.Len()+room, v.Len()+room)
		for i := range v.Len() {
			s.Index(i).Set(rebuild(v.Index(i), room))
		}
		for i := v.Len(); i < s.Len(); i++ {
			s.Index(i).Set(filling(v.Type().Elem()))
		}
		return s.Slice(0, v.Len())
	case reflect.Struct:
		s := reflect.New(v.Type()).Elem()
		for i := range v.NumField() {
			s.Field(i).Set(rebuild(v.Field(i), room))
		}
		return s
	}
	return v
}

// filling returns what stands in unused capacity.
func filling(t reflect.Type) reflect.Value {
	v := reflect.New(t).Elem()
	switch t.Kind() {
	case reflect.Int64:
		v.SetInt(77)
	case reflect.Bool:
		v.SetBool(true)
	case reflect.String:
		v.SetString("unused")
	case reflect.Slice:
		v.Set(reflect.Append(v, filling(t.Elem())))
	}
	return v
}

// whole returns the arguments with all of their capacity.
func whole(args []reflect.Value) []any {
	var list []any
	for _, v := range args {
		list = append(list, wholeOf(v))
	}
	return list
}

func wholeOf(v reflect.Value) any {
	var list []any
	switch v.Kind() {
	case reflect.Slice:
		for i := range v.Cap() {
			list = append(list, wholeOf(v.Slice(0, v.Cap()).Index(i)))
		}
		return []any{v.Len(), list}
	case reflect.Struct:
		for i := range v.NumField() {
			list = append(list, wholeOf(v.Field(i)))
		}
		return list
	}
	return v.Interface()
}

type block struct{ from, to uintptr }

// overlaps reports whether two slices, with their capacities, share memory.
func overlaps(lists ...[]reflect.Value) bool {
	var blocks []block
	for _, list := range lists {
		for _, v := range list {
			blocks = append(blocks, blocksOf(v)...)
		}
	}
	slices.SortFunc(blocks, func(a, b block) int { return cmp.Compare(a.from, b.from) })
	for i := 1; i < len(blocks); i++ {
		if blocks[i].from < blocks[i-1].to {
			return true
		}
	}
	return false
}

func blocksOf(v reflect.Value) []block {
	var blocks []block
	switch v.Kind() {
	case reflect.Slice:
		if v.Cap() > 0 {
			from := v.Pointer()
			blocks = append(blocks, block{from, from + uintptr(v.Cap())*v.Type().Elem().Size()})
		}
		for i := range v.Len() {
			blocks = append(blocks, blocksOf(v.Index(i))...)
		}
	case reflect.Struct:
		for i := range v.NumField() {
			blocks = append(blocks, blocksOf(v.Field(i))...)
		}
	}
	return blocks
}

// alike reports whether two values are deeply equal, nil and empty slices being equivalent.
func alike(a, b reflect.Value) bool {
	switch a.Kind() {
	case reflect.Slice:
		if a.Len() != b.Len() {
			return false
		}
		for i := range a.Len() {
			if !alike(a.Index(i), b.Index(i)) {
				return false
			}
		}
		return true
	case reflect.Struct:
		for i := range a.NumField() {
			if !alike(a.Field(i), b.Field(i)) {
				return false
			}
		}
		return true
	}
	return a.Interface() == b.Interface()
}

// isZero reports whether a value is the zero value, nil and empty slices being equivalent.
func isZero(a any) bool {
	v := reflect.ValueOf(a)
	return alike(v, reflect.Zero(v.Type()))
}

func TestSweepSeesFaults(t *testing.T) {
	kept := []int64{5}
	fns := map[string]any{
		"an argument has been modified": func(a []int64) { _ = append(a, 1) },
		"memory is shared":              func(a []int64) [][]int64 { return [][]int64{kept[:0], kept[:1]} },
		"different results":             func(a []int64) int64 { kept[0]++; return kept[0] },
		"panics":                        func(a []int64) int64 { return a[9] },
	}
	for want, fn := range fns {
		_, fault := pureCall(reflect.ValueOf(fn), []any{[]int64{1, 2}})
		if len(fault) < len(want) || fault[:len(want)] != want {
			t.Errorf("got %q, want %q", fault, want)
		}
	}
	returned := func(a []int64) []int64 { return a[:1] }
	if _, fault := pureCall(reflect.ValueOf(returned), []any{[]int64{1, 2}}); fault != "memory is shared" {
		t.Errorf("an argument that is returned: got %q", fault)
	}
}
