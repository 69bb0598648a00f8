package wicket

import (
	"slices"

	"wicket/api"
	"wicket/eval"
	"wicket/hang"
	"wicket/tree"
	"wicket/value"
)

// Form is a form that is being filled in. What it keeps of its own are arrays,
// so that not even a copy of it shares them; the items are its model's.
type Form struct {
	items  []tree.Item
	values [api.MaxItems]value.Value // what each item comes to
	last   [api.MaxItems]bool        // which of them were worked out again
}

// New begins a form (P6). Of a model that did not come out there is none.
func (m *Model) New() *Form {
	if m == nil {
		return nil
	}
	f := &Form{items: m.items}
	for n, item := range f.items {
		if item.Kind != tree.Ask {
			f.workOut(n)
		}
	}
	return f
}

// Set answers a question (P6).
func (f *Form) Set(question string, value string) api.Errno {
	n := f.question(question)
	if n < 0 {
		return api.ErrQuestion
	}
	answer, ok := f.items[n].Type.Read(value)
	if !ok {
		return api.ErrValue
	}
	f.answer(n, answer)
	return api.OK
}

// Drop takes an answer back (P6).
func (f *Form) Drop(question string) api.Errno {
	n := f.question(question)
	if n < 0 {
		return api.ErrQuestion
	}
	f.answer(n, value.Value{})
	return api.OK
}

// Value tells what an item comes to (P6).
func (f *Form) Value(name string) (string, api.Errno) {
	n := f.find(name)
	if n < 0 {
		return "", api.ErrName
	}
	return f.values[n].String(), api.OK
}

// Last tells which decisions were worked out again (P7).
func (f *Form) Last() []string {
	if f == nil {
		return nil
	}
	return f.names(func(n int) bool { return f.last[n] })
}

// Wanted tells which questions an item hangs on (P8).
func (f *Form) Wanted(name string) ([]string, api.Errno) {
	n := f.find(name)
	if n < 0 {
		return nil, api.ErrName
	}
	wanted := hang.Of(f.items[:n+1], f.values[:])[n]
	return f.names(wanted.Has), api.OK
}

// names are the names of the items that are chosen by their numbers, in their
// order. The list is new each time: it is the caller's.
func (f *Form) names(chosen func(int) bool) []string {
	var names []string
	for n, item := range f.items {
		if chosen(n) {
			names = append(names, item.Name)
		}
	}
	return names
}

// find is the number of the item of this name, or -1, if there is none: in a
// form that did not come out there is no item.
func (f *Form) find(name string) int {
	if f == nil {
		return -1
	}
	return slices.IndexFunc(f.items, func(item tree.Item) bool { return item.Name == name })
}

// question is the number of the question of this name, or -1, if there is none.
func (f *Form) question(name string) int {
	n := f.find(name)
	if n >= 0 && f.items[n].Kind != tree.Ask {
		return -1
	}
	return n
}

// answer makes a value the answer to a question. An item names only items
// ahead of it, so that going through them once is enough.
func (f *Form) answer(question int, answer value.Value) {
	var changed [api.MaxItems]bool
	changed[question] = f.values[question] != answer
	f.values[question] = answer
	f.last = [api.MaxItems]bool{}
	for n, item := range f.items {
		if item.Names(changed[:]) {
			changed[n] = f.workOut(n)
		}
	}
}

// workOut works a decision out again, and tells whether what it comes to has
// become another.
func (f *Form) workOut(decision int) bool {
	was := f.values[decision]
	f.values[decision] = eval.Decision(f.items[decision], f.values[:])
	f.last[decision] = true
	return f.values[decision] != was
}
