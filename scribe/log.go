package scribe

import (
	"strings"

	"scribe/files"
)

const logName = "log"

// log is the file of a server's records. It only grows: what a loss of power has torn stays in it, and is passed over.
type log struct {
	files *files.Files
	size  int // as the server left it
}

// open lets there be a log, and lets it stand for good ahead of all that is built on it.
func (l *log) open() {
	if _, ok := l.files.Read(logName); !ok {
		l.files.Create(logName)
	}
	l.files.Sync(logName)
	data, _ := l.files.Read(logName)
	l.size = len(data)
}

// tell sends the records, in their order, and closes the channel behind the last one.
func (l *log) tell(records chan<- record) {
	defer close(records)
	data, _ := l.files.Read(logName)
	for line := range strings.SplitSeq(data, breakMark) {
		if r, err := decode(line); err == nil {
			records <- r
		}
	}
}

// changed tells whether the log is not as the server left it.
func (l *log) changed() bool {
	data, ok := l.files.Read(logName)
	return !ok || len(data) != l.size
}

// write lets a record stand for good. It is laid by one step: one that does not go in leaves nothing behind.
func (l *log) write(r record) error {
	line := r.encode()
	if l.files == nil || !l.files.Append(logName, line) || !l.files.Sync(logName) {
		return &trouble{"log", errFull}
	}
	l.size += len(line)
	return nil
}
