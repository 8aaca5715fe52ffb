package tests

import (
	"math"
	"reflect"
	"runtime"
	"slices"
	"strings"
	"testing"
	"unsafe"
)

// strayOf is what lies behind lists of such things: by the one kind nothing but noughts, by the other one anything.
func strayOf(of reflect.Type, any bool) reflect.Value {
	v := reflect.New(of).Elem()
	if !any {
		return v
	}
	switch of.Kind() {
	case reflect.Int:
		v.SetInt(math.MinInt + 7)
	case reflect.Uint8:
		v.SetUint(77)
	case reflect.Float64:
		v.SetFloat(math.NaN())
	case reflect.String:
		v.SetString("behind")
	case reflect.Bool:
		v.SetBool(true)
	case reflect.Slice:
		v.Set(reflect.Append(v, strayOf(of.Elem(), any)))
	case reflect.Struct:
		for i := range v.NumField() {
			v.Field(i).Set(strayOf(of.Field(i).Type, any))
		}
	}
	return v
}

// handed is the same thing in new memory, with more behind each list. An empty list is nil by the one kind, and has something behind it by the other.
func handed(v reflect.Value, any bool) reflect.Value {
	copied := reflect.New(v.Type()).Elem()
	switch v.Kind() {
	case reflect.String:
		copied.SetString(strings.Clone(v.String()))
	case reflect.Slice:
		if v.Len() == 0 && !any {
			return copied
		}
		for i := range v.Len() {
			copied.Set(reflect.Append(copied, handed(v.Index(i), any)))
		}
		for range 3 {
			copied.Set(reflect.Append(copied, strayOf(v.Type().Elem(), any)))
		}
		copied.SetLen(v.Len())
	case reflect.Struct:
		for i := range v.NumField() {
			copied.Field(i).Set(handed(v.Field(i), any))
		}
	default:
		copied.Set(v)
	}
	return copied
}

func handedAll(l []reflect.Value, any bool) []reflect.Value {
	all := []reflect.Value{}
	for _, v := range l {
		all = append(all, handed(v, any))
	}
	return all
}

// sameThing: floats by their bits, lists without what lies behind them, or with it.
func sameThing(a reflect.Value, b reflect.Value, behind bool) bool {
	switch a.Kind() {
	case reflect.Float64:
		return math.Float64bits(a.Float()) == math.Float64bits(b.Float())
	case reflect.Struct:
		for i := range a.NumField() {
			if !sameThing(a.Field(i), b.Field(i), behind) {
				return false
			}
		}
		return true
	case reflect.Slice:
		if a.Len() != b.Len() || behind && a.Cap() != b.Cap() {
			return false
		}
		if behind {
			a, b = a.Slice(0, a.Cap()), b.Slice(0, b.Cap())
		}
		for i := range a.Len() {
			if !sameThing(a.Index(i), b.Index(i), behind) {
				return false
			}
		}
		return true
	}
	return a.Equal(b)
}

func sameThings(a []reflect.Value, b []reflect.Value, behind bool) bool {
	return slices.EqualFunc(a, b, func(x reflect.Value, y reflect.Value) bool { return sameThing(x, y, behind) })
}

// isZero: nothing but noughts, empty texts and empty lists, and false.
func isZero(v reflect.Value) bool {
	return sameThing(v, reflect.New(v.Type()).Elem(), false)
}

// stretch is memory that a list or a text has.
type stretch struct {
	from uintptr
	to   uintptr
	text bool
}

func (s stretch) meets(o stretch) bool { return s.text == o.text && s.from < o.to && o.from < s.to }

// stretchesOf are those of all lists and texts in a thing, what lies behind a list's length too.
func stretchesOf(v reflect.Value) []stretch {
	all := []stretch{}
	switch v.Kind() {
	case reflect.String:
		if s := v.String(); s != "" {
			from := uintptr(unsafe.Pointer(unsafe.StringData(s)))
			all = append(all, stretch{from, from + uintptr(len(s)), true})
		}
	case reflect.Struct:
		for i := range v.NumField() {
			all = append(all, stretchesOf(v.Field(i))...)
		}
	case reflect.Slice:
		if v.Cap() > 0 {
			all = append(all, stretch{v.Pointer(), v.Pointer() + uintptr(v.Cap())*v.Type().Elem().Size(), false})
		}
		for i := range v.Len() {
			all = append(all, stretchesOf(v.Index(i))...)
		}
	}
	return all
}

// shared says whether an answer has memory of an argument, or two of its lists have some in common. (Two texts of one answer may be one text: nobody can write into them.)
func shared(args []reflect.Value, answers []reflect.Value) bool {
	given, told := []stretch{}, []stretch{}
	for _, v := range args {
		given = append(given, stretchesOf(v)...)
	}
	for _, v := range answers {
		told = append(told, stretchesOf(v)...)
	}
	for i, s := range told {
		if slices.ContainsFunc(given, s.meets) || !s.text && slices.ContainsFunc(told[:i], s.meets) {
			return true
		}
	}
	return false
}

// spoilThing writes into all lists of an answer.
func spoilThing(v reflect.Value) {
	switch v.Kind() {
	case reflect.Struct:
		for i := range v.NumField() {
			spoilThing(v.Field(i))
		}
	case reflect.Slice:
		for i := range v.Len() {
			spoilThing(v.Index(i))
		}
		all := v.Slice(0, v.Cap())
		for i := range all.Len() {
			all.Index(i).Set(strayOf(v.Type().Elem(), true))
		}
	}
}

// valuesOf are a call's arguments.
func (c call) values() []reflect.Value {
	l := []reflect.Value{}
	for _, one := range c.args {
		l = append(l, reflect.ValueOf(one))
	}
	return l
}

// with is the call with other arguments.
func (c call) with(l []reflect.Value) call {
	c.args = nil
	for _, v := range l {
		c.args = append(c.args, v.Interface())
	}
	return c
}

// ask calls the function; it may not panic.
func (c call) ask(t *testing.T, args []reflect.Value) (answers []reflect.Value) {
	t.Helper()
	defer func() {
		if p := recover(); p != nil {
			t.Fatalf("%s of %.2000v panics: %v", c.name, c.args, p)
		}
	}()
	return reflect.ValueOf(c.f).Call(args)
}

// plainCopy is an answer in memory of its own.
func plainCopy(answers []reflect.Value) []reflect.Value { return handedAll(answers, false) }

// check asks three times, with this and that behind the lists: the answer is the same, nothing is written into what was handed in, and the answer is new memory.
func (c call) check(t *testing.T) []reflect.Value {
	t.Helper()
	first, second := handedAll(c.values(), false), handedAll(c.values(), true)
	got := c.ask(t, first)
	told := plainCopy(got)
	again := c.ask(t, second)
	if !sameThings(told, again, false) {
		t.Fatalf("%s of %.2000v: %.2000v, and with other things behind the lists %.2000v", c.name, c.args, told, again)
	}
	if shared(first, got) || shared(second, again) {
		t.Fatalf("%s of %.2000v: %.2000v is no new memory", c.name, c.args, told)
	}
	for _, v := range slices.Concat(got, again) {
		spoilThing(v)
	}
	if third := c.ask(t, first); !sameThings(told, third, false) {
		t.Fatalf("%s of %.2000v: %.2000v, and again %.2000v", c.name, c.args, told, third)
	}
	if !sameThings(first, handedAll(c.values(), false), true) || !sameThings(second, handedAll(c.values(), true), true) {
		t.Fatalf("%s of %.2000v writes into its arguments: %.2000v, %.2000v", c.name, c.args, first, second)
	}
	runtime.KeepAlive(first)
	runtime.KeepAlive(second)
	c.checkFalse(t, told)
	return told
}

// checkFalse: beside a false all else has its zero value.
func (c call) checkFalse(t *testing.T, told []reflect.Value) {
	t.Helper()
	last := len(told) - 1
	if told[last].Kind() != reflect.Bool || told[last].Bool() {
		return
	}
	for _, v := range told[:last] {
		if !isZero(v) {
			t.Fatalf("%s of %.2000v: %.2000v beside a false", c.name, c.args, told)
		}
	}
}

// placesOfThing are all places in a thing that one may write into, lists as wholes too.
func placesOfThing(v reflect.Value) []reflect.Value {
	all := []reflect.Value{}
	switch v.Kind() {
	case reflect.Struct:
		for i := range v.NumField() {
			all = append(all, placesOfThing(v.Field(i))...)
		}
		return all
	case reflect.Slice:
		for i := range v.Len() {
			all = append(all, placesOfThing(v.Index(i))...)
		}
	}
	return append(all, v)
}

func placesOfAll(l []reflect.Value) []reflect.Value {
	all := []reflect.Value{}
	for _, v := range l {
		all = append(all, placesOfThing(v)...)
	}
	return all
}

// otherThings are what a place may have in place of what it has: wrong nearly everywhere, or wrong here and there.
func otherThings(v reflect.Value) []reflect.Value {
	all := []reflect.Value{}
	put := func(one any) { all = append(all, reflect.ValueOf(one).Convert(v.Type())) }
	switch v.Kind() {
	case reflect.Int:
		n := int(v.Int())
		for _, one := range append([]int{n - 1, n + 1, -n, -1, 0, 1, 2, 17, 61, 256, 1000000, 1000001, -1000001, 1 << 31, 1 << 32, 1<<32 + n, -1 << 32, 1 << 62}, farInts...) {
			put(one)
		}
	case reflect.Uint8:
		put(0)
		put(255)
	case reflect.Bool:
		put(!v.Bool())
	case reflect.Float64:
		for _, one := range []float64{math.NaN(), math.Inf(1), math.Inf(-1), math.Copysign(0, -1), 0, math.MaxFloat64, -math.MaxFloat64, math.SmallestNonzeroFloat64, -v.Float() + 0, 0x1p-1000, 0x1p1000} {
			put(one)
		}
	case reflect.String:
		s := v.String()
		for _, one := range []string{"", " ", "x", "\xff", "0", "1", "-1", "-0", "01", "+1", "1/0", "1/1", "2/4", "-3/7", "1/", "1.5", "/", "**", "reach", "where\n", "\n", s + " ", " " + s, s + "\n", s + "0", s + s, s[:max(0, len(s)-1)], nines(400), nines(401), "1/" + nines(400), strings.Repeat("1", 301), strings.Repeat("a", 3000)} {
			put(one)
		}
	case reflect.Slice:
		all = otherSlices(v)
	}
	return all
}

func otherSlices(v reflect.Value) []reflect.Value {
	n, none := v.Len(), reflect.Zero(v.Type())
	all := []reflect.Value{none, reflect.MakeSlice(v.Type(), 0, 0), reflect.MakeSlice(v.Type(), 1, 1), reflect.MakeSlice(v.Type(), n, n), reflect.MakeSlice(v.Type(), 300, 300), reflect.AppendSlice(reflect.AppendSlice(none, v), v)}
	if n == 0 {
		return all
	}
	back, many := none, none
	for i := range n {
		back = reflect.Append(back, v.Index(n-1-i))
	}
	for range 70 {
		many = reflect.Append(many, v.Index(n-1))
	}
	return append(all, back, many, v.Slice(0, n-1), v.Slice(1, n), reflect.Append(reflect.AppendSlice(none, v), v.Index(n-1)), reflect.Append(reflect.AppendSlice(none, v), v.Index(0)))
}
