package seal

import (
	"bytes"
	"slices"

	"donjon/api"
)

// Ring has keys.
type Ring struct {
	keys map[place][]byte // nil till there is one
}

// A place of a ring is where one key is.
type place struct {
	tenant uint32
	gen    uint16
}

// NewRing is a ring with no keys.
func NewRing() *Ring { return &Ring{} }

// Add lays a copy of key into the ring.
func (r *Ring) Add(tenant uint32, gen uint16, key []byte) api.Errno {
	if r == nil {
		return api.ErrNil
	}
	if !isKey(key) {
		return api.ErrArg
	}
	if _, ok := r.keys[place{tenant, gen}]; ok {
		return api.ErrTwice
	}
	if r.keys == nil {
		r.keys = map[place][]byte{}
	}
	r.keys[place{tenant, gen}] = bytes.Clone(key)
	return api.OK
}

// Key is a copy of the tenant's key of that generation.
func (r *Ring) Key(tenant uint32, gen uint16) ([]byte, api.Errno) {
	if r == nil {
		return nil, api.ErrNil
	}
	key, ok := r.keys[place{tenant, gen}]
	if !ok {
		return nil, api.ErrNone
	}
	return bytes.Clone(key), api.OK
}

// Newest is the tenant's greatest generation.
func (r *Ring) Newest(tenant uint32) (uint16, api.Errno) {
	if r == nil {
		return 0, api.ErrNil
	}
	list := r.Gens(tenant)
	if len(list) == 0 {
		return 0, api.ErrNone
	}
	return list[len(list)-1], api.OK
}

// Drop takes the tenant's key of that generation out of the ring.
func (r *Ring) Drop(tenant uint32, gen uint16) api.Errno {
	if r == nil {
		return api.ErrNil
	}
	if _, ok := r.keys[place{tenant, gen}]; !ok {
		return api.ErrNone
	}
	delete(r.keys, place{tenant, gen})
	return api.OK
}

// Gens is the tenant's generations, rising.
func (r *Ring) Gens(tenant uint32) []uint16 {
	if r == nil {
		return nil
	}
	var list []uint16
	for p := range r.keys {
		if p.tenant == tenant {
			list = append(list, p.gen)
		}
	}
	slices.Sort(list)
	return list
}
