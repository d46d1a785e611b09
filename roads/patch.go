package roads

import (
	"slices"

	"kerbstone/api"
)

// Apply returns the map with all edits of the patch, and the next version.
func Apply(m api.Map, p api.Patch) (api.Map, api.Errno) {
	if e := Check(m); e != api.OK {
		return api.Map{}, e
	}
	if p.Base != m.Version {
		return api.Map{}, api.ErrVersion
	}
	to := Copy(m)
	for _, edit := range p.Edits {
		if e := apply(&to, edit); e != api.OK {
			return api.Map{}, e
		}
	}
	// A version behind MaxTick is the first thing that Check finds.
	to.Version++
	if e := Check(to); e != api.OK {
		return api.Map{}, e
	}
	// The rows of the edits still have the memory of the patch.
	return Copy(to), api.OK
}

// apply changes a map by an edit.
func apply(m *api.Map, e api.Edit) api.Errno {
	if e.Kind != api.EditAdd && e.Kind != api.EditDrop && e.Kind != api.EditChange {
		return api.ErrKind
	}
	switch e.Table {
	case api.TableLane:
		return edit(&m.Lanes, e, e.Lane)
	case api.TableZone:
		return edit(&m.Zones, e, e.Zone)
	case api.TableSignal:
		return edit(&m.Signals, e, e.Signal)
	case api.TableWork:
		return edit(&m.Works, e, e.Work)
	}
	return api.ErrKind
}

// edit changes the rows of a table by an edit of a valid kind with this row.
func edit[R any](rows *[]R, e api.Edit, row R) api.Errno {
	count := len(*rows)
	switch {
	case e.Kind == api.EditAdd && e.At == count:
		*rows = append(*rows, row)
	case e.Kind == api.EditDrop && e.At == count-1 && count > 0:
		*rows = (*rows)[:e.At]
	case e.Kind == api.EditChange && e.At >= 0 && e.At < count:
		(*rows)[e.At] = row
	default:
		return api.ErrRange
	}
	return api.OK
}

// Diff returns the patch that makes b of a, but for the version.
func Diff(a, b api.Map) (api.Patch, api.Errno) {
	if e := Check(a); e != api.OK {
		return api.Patch{}, e
	}
	if e := Check(b); e != api.OK {
		return api.Patch{}, e
	}
	return api.Patch{Base: a.Version, Edits: slices.Concat(
		edits(api.TableLane, a.Lanes, b.Lanes, sameLane, func(e *api.Edit, r api.Lane) { e.Lane = copyLane(r) }),
		edits(api.TableZone, a.Zones, b.Zones, sameZone, func(e *api.Edit, r api.Zone) { e.Zone = copyZone(r) }),
		edits(api.TableSignal, a.Signals, b.Signals, sameSignal, func(e *api.Edit, r api.Signal) { e.Signal = copySignal(r) }),
		edits(api.TableWork, a.Works, b.Works, sameWork, func(e *api.Edit, r api.Work) { e.Work = r }),
	)}, api.OK
}

// edits returns the edits of a table that make the rows b of the rows a: same
// compares two rows, and put puts a row into an edit.
func edits[R any](table int, a, b []R, same func(a, b R) bool, put func(e *api.Edit, row R)) []api.Edit {
	var l []api.Edit
	for i, row := range b {
		e := api.Edit{Kind: api.EditChange, Table: table, At: i}
		if i >= len(a) {
			e.Kind = api.EditAdd
		} else if same(a[i], row) {
			continue
		}
		put(&e, row)
		l = append(l, e)
	}
	for i := len(a) - 1; i >= len(b); i-- {
		l = append(l, api.Edit{Kind: api.EditDrop, Table: table, At: i})
	}
	return l
}
