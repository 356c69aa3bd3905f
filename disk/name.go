package disk

import (
	"strings"

	"fathom/api"
)

// letters are the bytes that a file's name may have.
const letters = "abcdefghijklmnopqrstuvwxyz0123456789.-_"

// mayBe tells whether this may be a file's name.
func mayBe(name string) bool {
	if len(name) < 1 || len(name) > api.MaxFile {
		return false
	}
	for i := range len(name) {
		if strings.IndexByte(letters, name[i]) < 0 {
			return false
		}
	}
	return true
}
