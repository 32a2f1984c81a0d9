package story

import (
	"reflect"
	"testing"

	"vanguard/api"
)

// stretch of memory that a list has, with its spare room.
type stretch struct {
	where      string
	begin, end uintptr
}

// stretches are those of all lists in x, however deep.
func stretches(where string, x reflect.Value) []stretch {
	var l []stretch
	switch x.Kind() {
	case reflect.Struct:
		for k := range x.NumField() {
			l = append(l, stretches(where+"."+x.Type().Field(k).Name, x.Field(k))...)
		}
	case reflect.Slice:
		if size := uintptr(x.Cap()) * x.Type().Elem().Size(); size > 0 {
			l = append(l, stretch{where, x.Pointer(), x.Pointer() + size})
		}
		for k := range x.Len() {
			l = append(l, stretches(where+"[]", x.Index(k))...)
		}
	}
	return l
}

// shared tells of two lists that have memory in common: of one of the answer, and one ahead of it or of what was handed in.
func shared(handed []stretch, answer any) string {
	l := handed
	for _, s := range stretches("answer", reflect.ValueOf(answer)) {
		for _, other := range l {
			if s.begin < other.end && other.begin < s.end {
				return s.where + " and " + other.where
			}
		}
		l = append(l, s)
	}
	return ""
}

// roomy copies all of x, each list with room behind it in which something stands.
func roomy(x reflect.Value) reflect.Value {
	made := reflect.New(x.Type()).Elem()
	switch x.Kind() {
	case reflect.Struct:
		for k := range x.NumField() {
			made.Field(k).Set(roomy(x.Field(k)))
		}
	case reflect.Slice:
		list := reflect.MakeSlice(x.Type(), x.Len()+3, x.Len()+3)
		for k := range x.Len() {
			list.Index(k).Set(roomy(x.Index(k)))
		}
		for k := x.Len(); k < list.Len(); k++ {
			fill(list.Index(k))
		}
		made.Set(list.Slice(0, x.Len()))
	default:
		made.Set(x)
	}
	return made
}

// fill makes something of x that isn't zero.
func fill(x reflect.Value) {
	switch x.Kind() {
	case reflect.Struct:
		for k := range x.NumField() {
			fill(x.Field(k))
		}
	case reflect.Slice:
		x.Set(reflect.MakeSlice(x.Type(), 2, 2))
	case reflect.Bool:
		x.SetBool(true)
	case reflect.Int:
		x.SetInt(77)
	case reflect.Uint8:
		x.SetUint(77)
	}
}

// wholly tells all of x, the room behind its lists too.
func wholly(x reflect.Value) string {
	s := ""
	switch x.Kind() {
	case reflect.Struct:
		for k := range x.NumField() {
			s += wholly(x.Field(k)) + " "
		}
	case reflect.Slice:
		for k := range x.Cap() {
			s += wholly(x.Slice(0, x.Cap()).Index(k)) + " "
		}
	default:
		return told(x.Interface())
	}
	return "{" + s + "}"
}

// memoryWorlds are worlds of all kinds, and what is none.
func memoryWorlds(t *testing.T) []api.World {
	torn := midway(t)
	torn.N[2].D.Safe = []byte("1 0")
	waits := api.Disk{Safe: text(went(3, true)...), Wait: append(text(beginRec(4, third()), stepRec(4)), "1 0"...)}
	leader := api.Disk{Safe: text(goes()...), Wait: append(text(sendRec(1, 1), publishRec(release(4, row(5, 3, 3)...))), '7')}
	nonsense := safe(backRec, stepRec(1))
	return []api.World{
		midway(t), torn, {}, fresh(t, fleet()), asleep(t, fleet(), leader, waits, waits, waits), asleep(t, fleet(), nonsense, nonsense, nonsense, nonsense),
	}
}

// P2 of 'What holds everywhere': nothing that is handed in is changed, nor the room behind it, and no answer shares memory with it, or with itself.
func TestMemory(t *testing.T) {
	for n, given := range memoryWorlds(t) {
		w := roomy(reflect.ValueOf(given)).Interface().(api.World)
		was := wholly(reflect.ValueOf(w))
		handed := stretches("world", reflect.ValueOf(w))
		l, _ := Leader(w)
		if s := shared(handed, l); s != "" {
			t.Errorf("world %d: Leader: %s share memory", n, s)
		}
		for k := -1; k <= len(w.N); k++ {
			a, _ := Agent(w, k)
			if s := shared(handed, a); s != "" {
				t.Errorf("world %d: Agent %d: %s share memory", n, k, s)
			}
		}
		if wholly(reflect.ValueOf(w)) != was {
			t.Errorf("world %d: what was handed in was changed", n)
		}
	}
}

// P2: what is handed in isn't kept: an answer stays what it is, whatever becomes of the world.
func TestNotKept(t *testing.T) {
	w := asleep(t, fleet(), safe(goes()...), safe(went(3, true, beginRec(4, third()))...))
	l, _ := Leader(w)
	a, _ := Agent(w, 0)
	wasL, wasA := told(l), told(a)
	for _, s := range [][]byte{w.H.D.Safe, w.N[0].D.Safe} {
		clear(s)
	}
	clear(w.C.First.Lock)
	clear(w.H.L.Releases)
	if told(l) != wasL || told(a) != wasA {
		t.Errorf("the answers became %v, %v; they were %v, %v", l, a, wasL, wasA)
	}
}
