package journal

import (
	"bytes"
	"slices"

	"fathom/api"
)

const (
	// head is what a file begins with.
	head = "FATHOMJ1"
	// word is how many bytes a length has, and a Sum.
	word = 4
	// ahead is how many bytes a record has ahead of its body.
	ahead = 2 * word
)

// fits tells whether these rows may be a record.
func fits(rows [][]byte) bool {
	size := 0
	for _, r := range rows {
		size += word + len(r)
	}
	return len(rows) <= api.MaxRows && size <= api.MaxRecord
}

// record tells the bytes of one.
func record(rows [][]byte) []byte {
	var body []byte
	for _, r := range rows {
		body = append(laid(body, uint32(len(r))), r...)
	}
	size := laid(nil, uint32(len(body)))
	return slices.Concat(size, laid(nil, sumOf(size, body)), body)
}

// sumOf tells the Sum that stands between a record's length and its body.
func sumOf(size, body []byte) uint32 { return Sum(slices.Concat(size, body)) }

// taken tells the records of a file, and how many bytes the head and these have: a torn one at the end isn't taken.
func taken(b []byte) (records [][][]byte, size int, e api.Errno) {
	var rows [][]byte
	var length int
	var sum uint32
	var left, body []byte
	if !bytes.HasPrefix(b, []byte(head)) {
		goto damage
	}
	left = b[len(head):]

next:
	size = len(b) - len(left)
	if len(left) < ahead {
		return records, size, api.OK
	}
	length, sum = int(number(left)), number(left[word:])
	if length > api.MaxRecord {
		goto damage
	}
	if len(left)-ahead < length {
		return records, size, api.OK
	}
	body = left[ahead : ahead+length]
	if sumOf(left[:word], body) != sum {
		goto damage
	}
	left = left[ahead+length:]
	rows = nil

row:
	if len(body) == 0 {
		records = append(records, rows)
		goto next
	}
	if len(body) < word || int(number(body)) > len(body)-word || len(rows) == api.MaxRows {
		goto damage
	}
	length = word + int(number(body))
	rows = append(rows, bytes.Clone(body[word:length]))
	body = body[length:]
	goto row

damage:
	return nil, 0, api.ErrJournalDamage
}

// laid tells bytes with a number behind them, its highest byte first.
func laid(b []byte, x uint32) []byte {
	return append(b, byte(x>>24), byte(x>>16), byte(x>>8), byte(x))
}

// number tells the first four bytes as one.
func number(b []byte) uint32 {
	return uint32(b[0])<<24 | uint32(b[1])<<16 | uint32(b[2])<<8 | uint32(b[3])
}
