package order

import (
	"docket/api"
	"docket/jsonval"
)

// The first byte of a value's bytes: they rise as the ranks do.
const (
	nullByte   = 0x05
	numberByte = 0x10
	textByte   = 0x20
	objectByte = 0x30
	listByte   = 0x40
	falseByte  = 0x50
	trueByte   = 0x51
)

// Ahead of what is still to come moreByte stands, at the end endByte, which is below it: so a beginning lies ahead of what goes on. A text has endByte behind a zeroByte, and behind each zeroByte of its own ownByte.
const (
	zeroByte = 0x00
	endByte  = 0x01
	moreByte = 0x02
	ownByte  = 0xff
)

const (
	numberSize = 8
	lifted     = 1 << 63 // added to a number, so that those below 0 lie ahead of the others
)

// Bytes: P3.3.
func Bytes(v api.Value) ([]byte, api.Errno) {
	if e := jsonval.Check(v); e != api.OK {
		return nil, e
	}
	return laid(nil, v), api.OK
}

// laid is the key with v's bytes behind it.
func laid(key []byte, v api.Value) []byte {
	switch v.Kind {
	case api.Int:
		return laidNumber(append(key, numberByte), v.Int)
	case api.Text:
		return laidText(append(key, textByte), v.Text)
	case api.Object:
		key = append(key, objectByte)
		for i, name := range v.Names {
			key = laidText(append(key, moreByte), name)
			key = laid(key, v.Items[i])
		}
		return append(key, endByte)
	case api.List:
		key = append(key, listByte)
		for _, item := range v.Items {
			key = laid(append(key, moreByte), item)
		}
		return append(key, endByte)
	case api.False:
		return append(key, falseByte)
	case api.True:
		return append(key, trueByte)
	}
	return append(key, nullByte)
}

func laidNumber(key []byte, x int64) []byte {
	high := uint64(x) + lifted
	for i := range numberSize {
		key = append(key, byte(high>>(8*(numberSize-1-i))))
	}
	return key
}

func laidText(key []byte, text string) []byte {
	for i := range len(text) {
		key = append(key, text[i])
		if text[i] == zeroByte {
			key = append(key, ownByte)
		}
	}
	return append(key, zeroByte, endByte)
}
