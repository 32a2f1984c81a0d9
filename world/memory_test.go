package world

import (
	"reflect"
	"testing"

	"vanguard/api"
)

// stretch of memory that a list has, with its spare room.
type stretch struct {
	where      string
	begin, end uintptr
}

// stretches are those of all lists in x, however deep.
func stretches(where string, x reflect.Value) []stretch {
	var l []stretch
	switch x.Kind() {
	case reflect.Struct:
		for k := range x.NumField() {
			l = append(l, stretches(where+"."+x.Type().Field(k).Name, x.Field(k))...)
		}
	case reflect.Slice:
		size := uintptr(x.Cap()) * x.Type().Elem().Size()
		if size > 0 {
			l = append(l, stretch{where, x.Pointer(), x.Pointer() + size})
		}
		for k := range x.Len() {
			l = append(l, stretches(where+"[]", x.Index(k))...)
		}
	}
	return l
}

// shared tells of two lists that have memory in common: of two of the answers, or of one and what was handed in.
func shared(handed []stretch, answers ...any) string {
	l := handed
	for _, x := range answers {
		for _, s := range stretches("answer", reflect.ValueOf(x)) {
			for _, other := range l {
				if s.begin < other.end && other.begin < s.end {
					return s.where + " and " + other.where
				}
			}
			l = append(l, s)
		}
	}
	return ""
}

// roomy copies all of x, each list with spare room behind it that has something in it.
func roomy(x reflect.Value) reflect.Value {
	made := reflect.New(x.Type()).Elem()
	switch x.Kind() {
	case reflect.Struct:
		for k := range x.NumField() {
			made.Field(k).Set(roomy(x.Field(k)))
		}
	case reflect.Slice:
		list := reflect.MakeSlice(x.Type(), x.Len()+3, x.Len()+3)
		for k := range x.Len() {
			list.Index(k).Set(roomy(x.Index(k)))
		}
		for k := x.Len(); k < list.Len(); k++ {
			fill(list.Index(k))
		}
		made.Set(list.Slice(0, x.Len()))
	default:
		made.Set(x)
	}
	return made
}

// fill makes something of x that isn't zero.
func fill(x reflect.Value) {
	switch x.Kind() {
	case reflect.Struct:
		for k := range x.NumField() {
			fill(x.Field(k))
		}
	case reflect.Slice:
		x.Set(reflect.MakeSlice(x.Type(), 2, 2))
	case reflect.Bool:
		x.SetBool(true)
	case reflect.Int:
		x.SetInt(77)
	case reflect.Uint8:
		x.SetUint(77)
	}
}

// written tells all of x, the spare room behind its lists too.
func written(x reflect.Value) string {
	switch x.Kind() {
	case reflect.Struct:
		s := "{"
		for k := range x.NumField() {
			s += written(x.Field(k)) + " "
		}
		return s + "}"
	case reflect.Slice:
		if x.Type().Elem().Kind() == reflect.Uint8 {
			return told(x.Slice(0, x.Cap()).Bytes())
		}
		s := "["
		for k := range x.Cap() {
			s += written(x.Slice(0, x.Cap()).Index(k)) + " "
		}
		return s + "]"
	}
	return told(x.Interface())
}

func withRoom[T any](x T) T { return roomy(reflect.ValueOf(x)).Interface().(T) }

func wholly(x any) string { return written(reflect.ValueOf(x)) }

// happenings are of each kind, right ones and wrong ones.
func happenings() []api.Happening {
	l := []api.Happening{publish(row(7, 2, 2)...), publish(row(1, 1, 0)...), with(api.HStart, 3), of(api.HBack, 0), of(api.HEnd, 0), {}}
	for n := range 4 {
		l = append(l, with(api.HHear, n), with(api.HTwice, n), with(api.HLose, n))
	}
	for k := -1; k < 4; k++ {
		for _, kind := range [...]int{api.HTell, api.HAgain, api.HStep, api.HReport, api.HCrash, api.HBoot} {
			l = append(l, of(kind, k))
		}
	}
	return l
}

func memoryWorlds() []api.World {
	wrong := midway()
	wrong.N[2].D.Safe = []byte("1 0")
	return append(goodWorlds(), wrong, api.World{})
}

// P2 of 'What holds everywhere': nothing that is handed in is changed, nor the room behind it, and no answer shares memory with it, or with itself.
func TestMemory(t *testing.T) {
	script := withRoom(happenings())
	wasScript := wholly(script)
	for k, given := range memoryWorlds() {
		w := withRoom(given)
		was := wholly(w)
		handed := append(stretches("world", reflect.ValueOf(w)), stretches("script", reflect.ValueOf(script))...)
		Check(w)
		Same(w, w)
		made, _ := New(w.C)
		if s := shared(handed, made); s != "" {
			t.Errorf("world %d: New: %s share memory", k, s)
		}
		for _, x := range script {
			got, _ := Do(w, x)
			if s := shared(handed, got); s != "" {
				t.Errorf("world %d: Do of %v: %s share memory", k, x, s)
			}
		}
		for _, l := range [][]api.Happening{nil, script[:1], script, script[len(script)-1:]} {
			got, said, _ := Run(w, l)
			if s := shared(handed, got, said); s != "" {
				t.Errorf("world %d: Run of %d: %s share memory", k, len(l), s)
			}
		}
		if wholly(w) != was || wholly(script) != wasScript {
			t.Errorf("world %d: what was handed in was changed", k)
		}
	}
}

// P2: lists that lie one in another one may be handed in.
func TestMemoryShared(t *testing.T) {
	w := midway()
	w.C.First.Lock = w.N[2].A.Lock
	w.H.L.Releases[0].Lock = w.N[2].A.Lock
	w.Mail[0].R.Lock = w.H.L.Releases[1].Lock
	both := append(append([]byte{}, w.N[1].D.Safe...), "left over"...)
	w = down(w, 1)
	w.N[1].D = api.Disk{Safe: both[:len(both)-9], Wait: both[len(both)-9:]}
	was := wholly(w)
	for _, x := range happenings() {
		got, _ := Do(w, x)
		if s := shared(stretches("world", reflect.ValueOf(w)), got); s != "" {
			t.Errorf("Do of %v: %s share memory", x, s)
		}
	}
	if wholly(w) != was {
		t.Error("what was handed in was changed")
	}
}
