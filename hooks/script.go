package hooks

import "platen/api"

// script is a method under way: what it does, and whom it prints by.
type script struct {
	act   api.Act
	print func(format string, args []api.Desc) string
}

// thrown is what a script panics with, so that its value is told apart from
// whatever else a print that is handed in may panic with.
type thrown struct{ value api.Desc }

// does answers what the method does, nil if there is no such method.
func (s script) does() func() string {
	switch s.act.Kind {
	case api.Tells:
		return s.tells
	case api.Throws:
		return s.throws
	case api.Prints:
		return s.prints
	}
	return nil
}

func (s script) tells() string { return s.act.Text }

func (s script) throws() string { panic(thrown{s.act.Panic}) }

// prints takes a nil print for one that answers nothing.
func (s script) prints() string {
	if s.print == nil {
		return ""
	}
	return s.print(s.act.Format, copies(s.act.Args))
}

// caught answers what does tells, or nothing and what it panicked with.
func caught(does func() string) (text string, what any) {
	defer func() { what = recover() }()
	return does(), nil
}

// shown answers what show tells of what a method panicked with. It is nothing
// where that is no script's, since there is then no value to ask show of, and
// where show is nil or panics itself: the method's text comes out all the same.
func shown(what any, show func(p api.Desc) string) string {
	t, ok := what.(thrown)
	if !ok || show == nil {
		return ""
	}
	text, _ := caught(func() string { return show(copied(t.value)) })
	return text
}
