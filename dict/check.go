package dict

import (
	"rootcellar/api"
	"rootcellar/batch"
	"rootcellar/path"
	"rootcellar/put"
	"rootcellar/versions"
)

// first goes over checks, in the order in which the chapter names their errors, and tells the first error that applies.
func first(checks ...func() api.Errno) api.Errno {
	for _, check := range checks {
		if e := check(); e != api.OK {
			return e
		}
	}
	return api.OK
}

// request is what a call was handed. Each check of it tells one error, or OK; all but notMade stand behind that one, and noRoom behind all that are told of writes.
type request struct {
	dict   *Dict
	name   string
	key    []byte
	writes []api.Raw
}

// refusedWrite tells the error of a call that writes: a put and a delete are batches of one.
func (d *Dict) refusedWrite(l ...api.Raw) api.Errno {
	r := request{dict: d, writes: l}
	return first(r.notMade, r.badKeys, r.tooLong, r.noRoom)
}

// place tells where a key is asked for: its tree's root, and its way down there.
func (d *Dict) place(name string, key []byte) (root int, k api.Path, e api.Errno) {
	r := request{dict: d, name: name, key: key}
	if e = first(r.notMade, r.badKey, r.noTree); e != api.OK {
		return 0, api.Path{}, e
	}
	root, _ = d.trees.of(name)
	k, _ = path.Of(key)
	return root, k, api.OK
}

func (r *request) notMade() api.Errno {
	if !r.dict.made() {
		return api.ErrNil
	}
	return api.OK
}

func (r *request) badKey() api.Errno {
	_, e := path.Of(r.key)
	return e
}

func (r *request) badKeys() api.Errno {
	for _, w := range r.writes {
		if _, e := path.Of(w.Key); e != api.OK {
			return e
		}
	}
	return api.OK
}

// tooLong: what a write that is Gone has for a value counts for nothing.
func (r *request) tooLong() api.Errno {
	if len(r.writes) > api.MaxBatch {
		return api.ErrLong
	}
	for _, w := range r.writes {
		if !w.Gone && len(w.Value) > api.MaxValue {
			return api.ErrLong
		}
	}
	return api.OK
}

func (r *request) noRoom() api.Errno {
	if !put.Fits(r.dict.Store(), batch.Keys(writes(r.writes))) {
		return api.ErrStoreFull
	}
	return api.OK
}

// noTree: the empty name is the current tree's, any other one must be a version's.
func (r *request) noTree() api.Errno {
	_, e := r.dict.trees.of(r.name)
	return e
}

func (r *request) noVersion() api.Errno {
	_, e := r.dict.trees.Root(r.name)
	return e
}

func (r *request) noName() api.Errno {
	if !versions.Name(r.name) {
		return api.ErrName
	}
	return api.OK
}

func (r *request) noPlace() api.Errno {
	if r.dict.trees.Len() >= api.MaxVersions {
		return api.ErrVersions
	}
	return api.OK
}
