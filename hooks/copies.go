package hooks

import (
	"slices"

	"platen/api"
)

// copiedHook answers h in memory of its own: a row that is handed out may be
// changed without its table.
func copiedHook(h api.Hook) api.Hook {
	return api.Hook{
		Format: copiedAct(h.Format),
		Syntax: copiedAct(h.Syntax),
		Error:  copiedAct(h.Error),
		String: copiedAct(h.String),
	}
}

func copiedAct(a api.Act) api.Act {
	a.Args = copies(a.Args)
	a.Panic = copied(a.Panic)
	return a
}

func copied(d api.Desc) api.Desc {
	d.Names = slices.Clone(d.Names)
	d.Parts = copies(d.Parts)
	return d
}

// copies answers l in memory of its own, with all that its descriptors hold.
func copies(l []api.Desc) []api.Desc {
	l = slices.Clone(l)
	for i := range l {
		l[i] = copied(l[i])
	}
	return l
}
