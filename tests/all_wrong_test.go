package tests

import (
	"go/ast"
	"go/parser"
	"go/token"
	"maps"
	"math/rand"
	"path/filepath"
	"reflect"
	"runtime"
	"slices"
	"strings"
	"sync"
	"testing"
	"time"

	"loop.example/g00047/impl"
)

// exportedNames are those of all functions that the program's files tell.
func exportedNames(t *testing.T) []string {
	t.Helper()
	files, err := filepath.Glob("../impl/*.go")
	if err != nil || len(files) == 0 {
		t.Fatal(files, err)
	}
	names := []string{}
	for _, path := range files {
		file, err := parser.ParseFile(token.NewFileSet(), path, nil, parser.SkipObjectResolution)
		if err != nil {
			t.Fatal(err)
		}
		for _, d := range file.Decls {
			if f, ok := d.(*ast.FuncDecl); ok && f.Recv == nil && f.Name.IsExported() {
				names = append(names, f.Name.Name)
			}
		}
	}
	slices.Sort(names)
	return names
}

// No function is left out, and each name stands with its own function.
func TestAllFunctionsAreAsked(t *testing.T) {
	names := []string{}
	for _, c := range allCalls() {
		names = append(names, c.name)
		told := runtime.FuncForPC(reflect.ValueOf(c.f).Pointer()).Name()
		if !strings.HasSuffix(told, "."+c.name) {
			t.Errorf("%s is %s", c.name, told)
		}
	}
	slices.Sort(names)
	if want := exportedNames(t); !slices.Equal(names, want) {
		t.Errorf("asked are %q, there are %q", names, want)
	}
}

// Arguments as the document asks for them have an answer.
func TestAllFunctionsAnswer(t *testing.T) {
	for _, c := range allCalls() {
		if told := c.check(t); !slices.ContainsFunc(told, func(v reflect.Value) bool { return !isZero(v) }) || told[len(told)-1].Kind() == reflect.Bool && !told[len(told)-1].Bool() {
			t.Errorf("%s of %v: %v", c.name, c.args, told)
		}
	}
}

// Zero values, empty lists and empty texts in all places.
func TestAllFunctionsOfZeroValues(t *testing.T) {
	for _, c := range allCalls() {
		l := []reflect.Value{}
		for _, v := range c.values() {
			l = append(l, reflect.Zero(v.Type()))
		}
		c.with(l).check(t)
	}
}

// Each place of the arguments alone is made otherwise: numbers that are far off, floats that are none, texts of all kinds, lists that are nil, too short, too long, the wrong way round.
func TestAllFunctionsSpoiltAtOnePlace(t *testing.T) {
	for _, c := range allCalls() {
		first := handedAll(c.values(), false)
		for i, place := range placesOfAll(first) {
			for _, other := range otherThings(place) {
				l := handedAll(c.values(), false)
				placesOfAll(l)[i].Set(other)
				c.with(l).check(t)
			}
		}
	}
}

// thingPool has for each type things that stand in the arguments or in the answers of some call.
func thingPool(t *testing.T) map[reflect.Type][]reflect.Value {
	pool := map[reflect.Type][]reflect.Value{}
	var lay func(v reflect.Value)
	lay = func(v reflect.Value) {
		pool[v.Type()] = append(pool[v.Type()], v)
		switch v.Kind() {
		case reflect.Struct:
			for i := range v.NumField() {
				lay(v.Field(i))
			}
		case reflect.Slice:
			for i := range v.Len() {
				lay(v.Index(i))
			}
		}
	}
	for _, c := range allCalls() {
		for _, v := range slices.Concat(c.values(), plainCopy(c.ask(t, handedAll(c.values(), false)))) {
			lay(v)
		}
	}
	return pool
}

// Drawn arguments: what stands in other calls, and several places that are made otherwise.
func TestAllFunctionsOfDrawnArguments(t *testing.T) {
	r, pool := rand.New(rand.NewSource(561)), thingPool(t)
	drawn := func(of reflect.Type) reflect.Value { return pool[of][r.Intn(len(pool[of]))] }
	answered := map[string]int{}
	for _, c := range allCalls() {
		for range 400 {
			l := handedAll(c.values(), false)
			for i := range l {
				if r.Intn(2) == 0 {
					l[i].Set(handed(drawn(l[i].Type()), false))
				}
			}
			for range r.Intn(4) {
				places := placesOfAll(l)
				place := places[r.Intn(len(places))]
				other := otherThings(place)
				if r.Intn(2) == 0 {
					other = []reflect.Value{handed(drawn(place.Type()), false)}
				}
				place.Set(other[r.Intn(len(other))])
			}
			if told := c.with(l).check(t); !isZero(told[0]) {
				answered[c.name]++
			}
		}
	}
	if len(answered) < len(allCalls())-5 {
		t.Error("too few have an answer:", slices.Sorted(maps.Keys(answered)))
	}
}

// The same call has the same answer every time, whatever was called ahead of it.
func TestAllFunctionsAreTheSameEveryTime(t *testing.T) {
	r, calls := rand.New(rand.NewSource(562)), allCalls()
	told := [][]reflect.Value{}
	for _, c := range calls {
		told = append(told, plainCopy(c.ask(t, handedAll(c.values(), false))))
	}
	for range 20 {
		for _, i := range r.Perm(len(calls)) {
			if got := calls[i].ask(t, handedAll(calls[i].values(), true)); !sameThings(got, told[i], false) {
				t.Fatalf("%s of %v: %v, was %v", calls[i].name, calls[i].args, got, told[i])
			}
		}
	}
}

// All functions from several goroutines at once, with the same arguments in the same memory.
func TestAllFunctionsAtOnce(t *testing.T) {
	calls := allCalls()
	args, told := [][]reflect.Value{}, [][]reflect.Value{}
	for _, c := range calls {
		args = append(args, handedAll(c.values(), true))
		told = append(told, plainCopy(c.ask(t, handedAll(c.values(), false))))
	}
	var all sync.WaitGroup
	for from := range 8 {
		all.Go(func() {
			for k := range 5 * len(calls) {
				i := (k + from*31) % len(calls)
				if got := reflect.ValueOf(calls[i].f).Call(args[i]); !sameThings(got, told[i], false) {
					t.Errorf("%s of %v: %v, was %v", calls[i].name, calls[i].args, got, told[i])
				}
			}
		})
	}
	all.Wait()
	for i, c := range calls {
		if !sameThings(args[i], handedAll(c.values(), true), true) {
			t.Errorf("%s writes into its arguments: %v", c.name, args[i])
		}
	}
}

// No goroutine goes on when a call has answered.
func TestNoGoroutineIsLeftBehindAnyCall(t *testing.T) {
	before := runtime.NumGoroutine()
	for _, c := range allCalls() {
		for range 20 {
			c.ask(t, handedAll(c.values(), true))
		}
	}
	// One that has told that it is done may need a moment to be gone.
	for tries := 0; runtime.NumGoroutine() > before; tries++ {
		if tries > 1000 {
			t.Fatalf("%d goroutines, %d before", runtime.NumGoroutine(), before)
		}
		time.Sleep(time.Millisecond)
	}
}

// longThings are far too long for any place: noughts, the last thing again and again, and bytes of a few kinds.
func longThings(v reflect.Value) []reflect.Value {
	const many = 100000
	all := []reflect.Value{}
	switch v.Kind() {
	case reflect.Slice:
		all = append(all, reflect.MakeSlice(v.Type(), many, many))
		if v.Len() > 0 {
			again := reflect.MakeSlice(v.Type(), many, many)
			for i := range many {
				again.Index(i).Set(v.Index(v.Len() - 1))
			}
			all = append(all, again)
		}
	case reflect.String:
		for _, s := range []string{"1", "0", "a", " ", "/", "\n", "a ", "/a", "**/", v.String()} {
			all = append(all, reflect.ValueOf(strings.Repeat(s, many)))
		}
		all = append(all, reflect.ValueOf("1/"+nines(many)), reflect.ValueOf("/"+strings.Repeat("**/", many)+"a"))
	}
	return all
}

// No call takes long, however long its arguments are; two minutes are far more than all of them need.
func TestAllFunctionsAnswerInTime(t *testing.T) {
	answered, asked := make(chan int), make(chan string, 100000)
	go func() {
		defer close(answered)
		for _, c := range allCalls() {
			for i, place := range placesOfAll(handedAll(c.values(), false)) {
				for _, long := range longThings(place) {
					asked <- c.name
					l := handedAll(c.values(), false)
					placesOfAll(l)[i].Set(long)
					c.with(l).ask(t, l)
				}
			}
		}
	}()
	select {
	case <-answered:
	case <-time.After(2 * time.Minute):
		for len(asked) > 1 {
			<-asked
		}
		t.Fatal("no answer of", <-asked)
	}
}

// What the checks are to find is found: memory that is handed out or told twice, and what lies behind a list's length.
func TestChecksOfCallsFindFaults(t *testing.T) {
	l := []reflect.Value{handed(reflect.ValueOf([]int{1, 2}), true)}
	one := []int{1, 2, 3, 4}
	for _, c := range []struct {
		answers []any
		shared  bool
	}{
		{[]any{l[0].Interface()}, true}, {[]any{l[0].Slice(1, 2).Interface()}, true}, {[]any{l[0].Slice(0, 0).Interface()}, true}, {[]any{[]int{1, 2}}, false}, {[]any{one[:2], one[2:]}, true}, {[]any{one[:2:2], one[2:]}, false}, {[]any{one[:2], one[:2]}, true}, {[]any{impl.Cells{Cells: one}, [][]int{one[1:2]}}, true}, {[]any{0, "", []int{}, []int(nil)}, false},
	} {
		told := call{args: c.answers}.values()
		if got := shared(l, told); got != c.shared {
			t.Errorf("%v is shared: %v", c.answers, got)
		}
	}
	if text := reflect.ValueOf(strings.Clone("where")); !shared([]reflect.Value{text}, []reflect.Value{reflect.ValueOf(text.String()[1:3])}) {
		t.Error("a text that lies in another one is not found")
	}
	first, second := handed(reflect.ValueOf([]int{1, 2}), false), handed(reflect.ValueOf([]int{1, 2}), true)
	if sameThing(first, second, true) || !sameThing(first, second, false) || !sameThing(handed(reflect.ValueOf([]int{}), true), reflect.ValueOf([]int(nil)), false) {
		t.Error("what lies behind is not told apart, or an empty list is not nil")
	}
	spoilThing(second)
	if sameThing(first, second, false) {
		t.Error("nothing is spoilt")
	}
}
