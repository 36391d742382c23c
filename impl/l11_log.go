package impl

import (
	"strconv"
	"strings"
)

// LogMaxText bounds logs.
const LogMaxText = 9000

// logFigures is how many figures of its sum stand behind a record.
const logFigures = 12

// logWriter is a log as it is written.
type logWriter struct {
	strings.Builder
}

// logCursor is a place in a log, up to which it was read.
type logCursor struct {
	log string
	at  int
}

// LogAdd is a log with a record more.
func LogAdd(log string, record string) (string, bool) {
	records, size := LogRead(log)
	if size != len(log) {
		return log, false
	}
	var writer logWriter
	writer.WriteString(log)
	writer.add(len(records), record)
	if writer.Len() > LogMaxText {
		return log, false
	}
	return writer.String(), true
}

// LogRead is the records of a log, and how many bytes of it are right.
func LogRead(log string) ([]string, int) {
	var records []string
	cursor := logCursor{log: log}
	for {
		record, ok := cursor.next(len(records))
		if !ok {
			return records, cursor.at
		}
		records = append(records, record)
	}
}

// LogOk says whether a log is right as a whole.
func LogOk(log string) bool {
	_, size := LogRead(log)
	return size == len(log) && size <= LogMaxText
}

// LogTorn is what is left of a log, if power is lost while a record is written: so many bytes of it.
func LogTorn(log string, record string, bytes int) string {
	whole, ok := LogAdd(log, record)
	if !ok {
		return log
	}
	return logCut(log, whole, bytes)
}

// logCut is a longer log of which, behind a log with which it begins, just the first bytes are there.
func logCut(log string, longer string, bytes int) string {
	// What is added bounds the bytes first, as their sum with a size might wrap around.
	return longer[:len(log)+min(max(bytes, 0), len(longer)-len(log))]
}

// add writes a record, as that of a place.
func (w *logWriter) add(place int, record string) {
	text := strconv.Itoa(place) + ":" + strconv.Itoa(len(record)) + ":" + record
	w.WriteString(text)
	w.WriteString(HashSum(text)[:logFigures])
	w.WriteByte(';')
}

// next reads the record at the cursor, if it is that of a place, and goes behind it.
func (c *logCursor) next(place int) (string, bool) {
	rest := c.log[c.at:]
	_, behind, _ := strings.Cut(rest, ":")
	figures, behind, _ := strings.Cut(behind, ":")
	size, err := strconv.Atoi(figures)
	if err != nil || size < 0 || size > len(behind) {
		return "", false
	}
	// Written again it shows another place, needless noughts and signs, and a sum that is not its own.
	record := behind[:size]
	var writer logWriter
	writer.add(place, record)
	if !strings.HasPrefix(rest, writer.String()) {
		return "", false
	}
	c.at += writer.Len()
	return record, true
}
