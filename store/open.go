package store

import (
	"slices"
	"strconv"
	"strings"

	"fathom/api"
	"fathom/disk"
	"fathom/head"
	"fathom/journal"
)

func isConfig(c api.Config) bool {
	return 1 <= c.Block && c.Block <= api.MaxBlock && 1 <= c.Flush && c.Flush <= api.MaxPoints && c.Step >= 0
}

func newStore(d *disk.Disk, c api.Config) *Store {
	return &Store{disk: d, config: c, known: newKnown(), head: head.New(), shape: shape{next: 1}}
}

// openingError tells what Open answers to an error of the disk, or of a journal.
func openingError(e api.Errno) api.Errno {
	switch e {
	case api.OK:
		return api.OK
	case api.ErrJournalDamage:
		return api.ErrStoreDamage
	}
	return api.ErrStoreOff
}

// isWithin tells whether no more lies in the store than may.
func (s *Store) isWithin() bool {
	return s.points() <= api.MaxPoints && s.spans() <= api.MaxSpans
}

func (s *Store) openManifest() api.Errno {
	if _, e := s.disk.Size(manifestName); e == api.ErrDiskNone {
		return api.OK
	}
	_, records, e := journal.Open(s.disk, manifestName)
	if e != api.OK {
		return openingError(e)
	}
	if len(records) != 1 || !s.readManifest(records[0]) {
		return api.ErrStoreDamage
	}
	return api.OK
}

// openParts reads the segments that the manifest names, and all that is in them.
func (s *Store) openParts() api.Errno {
	for i, x := range s.shape.parts {
		b, e := s.disk.Read(segmentName(x.Number))
		if e != api.OK && e != api.ErrDiskNone {
			return api.ErrStoreOff
		}
		p, good := partOf(b, x.Number, x.Step)
		if !good {
			return api.ErrStoreDamage
		}
		s.shape.parts[i] = p
		if !s.isWithin() || !p.isSound(s.known) {
			return api.ErrStoreDamage
		}
	}
	return api.OK
}

func (s *Store) openLog() api.Errno {
	log, records, e := journal.Open(s.disk, logName(s.shape.epoch))
	if e != api.OK {
		return openingError(e)
	}
	if log.Size() > api.MaxLog {
		return api.ErrStoreDamage
	}
	s.log = log
	for _, rows := range records {
		if !s.redo(rows) {
			return api.ErrStoreDamage
		}
	}
	return api.OK
}

// sweep removes what was left by what was broken off.
func (s *Store) sweep() api.Errno {
	names, e := s.disk.Names()
	if e != api.OK {
		return api.ErrStoreOff
	}
	for _, name := range names {
		if s.isLeft(name) && s.disk.Remove(name) != api.OK {
			return api.ErrStoreOff
		}
	}
	return api.OK
}

// isLeft tells whether a file's name is one of the store's, and nothing of the store stands there.
func (s *Store) isLeft(name string) bool {
	if n, is := numbered(name, segmentBegin); is {
		return !slices.ContainsFunc(s.shape.parts, func(p part) bool { return p.Number == n })
	}
	if n, is := numbered(name, logBegin); is {
		return n != s.shape.epoch
	}
	return name == freshName
}

// numbered tells the number behind a name's beginning, if it is a decimal without a needless nought.
func numbered(name, begin string) (uint64, bool) {
	text, is := strings.CutPrefix(name, begin)
	n, e := strconv.ParseUint(text, 10, 64)
	return n, is && e == nil && strconv.FormatUint(n, 10) == text
}
