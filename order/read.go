package order

import (
	"bytes"
	"unicode/utf8"

	"docket/api"
	"docket/jsonval"
)

// reader goes through a key from the left; at is the place of the byte that comes next, and once there is a fault the place of that.
type reader struct {
	key []byte
	at  int
}

// FromBytes: P3.4.
func FromBytes(b []byte) (api.Value, api.Errno, int) {
	r := reader{key: b}
	v, e := r.value(0)
	if e == api.OK && r.at < len(b) {
		e = api.ErrTail
	}
	if e != api.OK {
		return api.Value{}, e, r.at
	}
	return v, api.OK, 0
}

func (r *reader) fault(e api.Errno, place int) api.Errno {
	r.at = place
	return e
}

func (r *reader) short() api.Errno { return r.fault(api.ErrShort, len(r.key)) }

func (r *reader) value(depth int) (api.Value, api.Errno) {
	if r.at == len(r.key) {
		return api.Value{}, r.short()
	}
	place := r.at
	first := r.key[place]
	if (first == objectByte || first == listByte) && depth == api.MaxDepth {
		return api.Value{}, r.fault(api.ErrDepth, place)
	}
	r.at++
	switch first {
	case nullByte:
		return api.Value{Kind: api.Null}, api.OK
	case numberByte:
		return r.number()
	case textByte:
		text, e := r.text()
		return jsonval.Word(text), e
	case objectByte:
		return r.object(depth)
	case listByte:
		return r.list(depth)
	case falseByte:
		return jsonval.Flag(false), api.OK
	case trueByte:
		return jsonval.Flag(true), api.OK
	}
	return api.Value{}, r.fault(api.ErrKey, place)
}

func (r *reader) number() (api.Value, api.Errno) {
	if len(r.key)-r.at < numberSize {
		return api.Value{}, r.short()
	}
	var high uint64
	for _, b := range r.key[r.at : r.at+numberSize] {
		high = high<<8 | uint64(b)
	}
	r.at += numberSize
	return jsonval.Of(int64(high - lifted)), api.OK
}

// text reads up to the end of a text, and asks only then whether it is clean.
func (r *reader) text() (string, api.Errno) {
	start := r.at
	var text []byte
	for {
		plain := bytes.IndexByte(r.key[r.at:], zeroByte)
		if plain < 0 || r.at+plain+1 == len(r.key) {
			return "", r.short()
		}
		text = append(text, r.key[r.at:r.at+plain]...)
		r.at += plain + 1
		switch r.key[r.at] {
		case ownByte:
			text = append(text, zeroByte)
		case endByte:
			return r.clean(text, start)
		default:
			return "", r.fault(api.ErrKey, r.at)
		}
		r.at++
	}
}

// clean goes over the last byte of a text that began at start.
func (r *reader) clean(text []byte, start int) (string, api.Errno) {
	if !utf8.Valid(text) {
		return "", r.fault(api.ErrUtf, start)
	}
	r.at++
	return string(text), api.OK
}

// more reads the byte ahead of a member or Item, or the one behind the last.
func (r *reader) more() (bool, api.Errno) {
	if r.at == len(r.key) {
		return false, r.short()
	}
	b := r.key[r.at]
	if b != moreByte && b != endByte {
		return false, r.fault(api.ErrKey, r.at)
	}
	r.at++
	return b == moreByte, api.OK
}

func (r *reader) list(depth int) (api.Value, api.Errno) {
	v := api.Value{Kind: api.List}
	for {
		more, e := r.more()
		if !more {
			return v, e
		}
		item, e := r.value(depth + 1)
		if e != api.OK {
			return api.Value{}, e
		}
		v.Items = append(v.Items, item)
	}
}

func (r *reader) object(depth int) (api.Value, api.Errno) {
	v := api.Value{Kind: api.Object}
	had := map[string]struct{}{}
	for {
		more, e := r.more()
		if !more {
			return v, e
		}
		name, e := r.name(had)
		if e != api.OK {
			return api.Value{}, e
		}
		item, e := r.value(depth + 1)
		if e != api.OK {
			return api.Value{}, e
		}
		v.Names, v.Items = append(v.Names, name), append(v.Items, item)
	}
}

// name reads a Name that the object must not have had.
func (r *reader) name(had map[string]struct{}) (string, api.Errno) {
	start := r.at
	name, e := r.text()
	if e != api.OK {
		return "", e
	}
	if _, twice := had[name]; twice {
		return "", r.fault(api.ErrName, start)
	}
	had[name] = struct{}{}
	return name, api.OK
}
