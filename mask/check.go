package mask

import (
	"glister/api"
	"glister/flash"
	"glister/lists"
)

// exceeds tells whether some list of the log is longer than its limit.
func (l Log) exceeds() bool {
	return len(l.Sees) > api.MaxMaskStations || len(l.Journal) > api.MaxMaskSent || len(l.Records) > api.MaxMaskRecords
}

// valid tells whether a log that exceeds no limit, and has a code, is as the document describes.
func (l Log) valid() bool {
	return 0 <= l.Errors && l.Errors <= api.MaxFlashErrors && len(l.Sees) > 0 && lists.Every(l.Sees, isSight) &&
		lists.Every(l.Journal, l.isSent) && lists.Every(l.Records, l.isRecord)
}

func isHour(hour int) bool { return 0 <= hour && hour <= api.MaxMaskHour }

func isSight(hour int) bool { return hour == Never || isHour(hour) }

func (l Log) hasStation(station int) bool { return below(station, len(l.Sees)) }

func (l Log) hasRecord(record int) bool { return below(record, len(l.Records)) }

// isSent tells whether the dispatch can be one of the journal.
func (l Log) isSent(s Sent) bool {
	_, e := flash.Send(l.Code, s.Text)
	return isHour(s.Hour) && l.hasStation(s.Station) && len(s.Text) > 0 && e == api.OK
}

// isRecord tells whether the record can be one of the log.
func (l Log) isRecord(r Record) bool {
	// Which texts these are does not matter: there is an error if what was read is no string of signs.
	_, e := flash.Texts(l.Code, r.Read, 0, 0)
	return isHour(r.Hour) && l.hasStation(r.Station) && e == api.OK
}

// below tells whether the number is from 0 to the end less 1.
func below(n, end int) bool { return 0 <= n && n < end }
