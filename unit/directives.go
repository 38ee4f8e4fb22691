package unit

import (
	"strconv"
	"strings"

	"clepsydra/api"
	"clepsydra/cal"
	"clepsydra/timespan"
	"clepsydra/words"
)

// The sections of which something is known.
const (
	unitSection    = "Unit"
	serviceSection = "Service"
	timerSection   = "Timer"
	installSection = "Install"

	// Sections that begin so are other programs'.
	othersPrefix = "X-"
)

const (
	blanks = " \t"
	digits = "0123456789"

	mostBurst = 1000000
	// finest is the accuracy that stands for none.
	finest = 1
)

// directive is a section, and a key of it.
type directive struct{ section, key string }

// setter makes an assignment; of an error it leaves everything as it was.
type setter func(f *File, value string) api.Errno

// directives are what each key of each section does.
func directives() map[directive]setter {
	return map[directive]setter{
		{unitSection, "Requires"}:              names(func(f *File) *[]string { return &f.Unit.Requires }),
		{unitSection, "Wants"}:                 names(func(f *File) *[]string { return &f.Unit.Wants }),
		{unitSection, "BindsTo"}:               names(func(f *File) *[]string { return &f.Unit.BindsTo }),
		{unitSection, "PartOf"}:                names(func(f *File) *[]string { return &f.Unit.PartOf }),
		{unitSection, "After"}:                 names(func(f *File) *[]string { return &f.Unit.After }),
		{unitSection, "Before"}:                names(func(f *File) *[]string { return &f.Unit.Before }),
		{unitSection, "Conflicts"}:             names(func(f *File) *[]string { return &f.Unit.Conflicts }),
		{unitSection, "DefaultDependencies"}:   put(onOff, func(f *File, on bool) { f.Unit.Defaults = on }),
		{unitSection, "StartLimitIntervalSec"}: put(timespan.Parse, func(f *File, n int64) { f.Unit.Interval = n }),
		{unitSection, "StartLimitBurst"}:       put(burst, func(f *File, n int64) { f.Unit.Burst = n }),
		{unitSection, "Description"}:           nothing,
		{unitSection, "Documentation"}:         nothing,

		{serviceSection, "Type"}:            put(among(types()), func(f *File, t uint8) { f.Service.Type = t }),
		{serviceSection, "RemainAfterExit"}: put(onOff, func(f *File, on bool) { f.Service.Remain = on }),
		{serviceSection, "Restart"}:         put(among(restarts()), func(f *File, r uint8) { f.Service.Restart = r }),
		{serviceSection, "RestartSec"}:      put(ending, func(f *File, n int64) { f.Service.Again = n }),
		{serviceSection, "TimeoutStartSec"}: put(timeout, func(f *File, n int64) { f.Service.Up = n }),
		{serviceSection, "TimeoutStopSec"}:  put(timeout, func(f *File, n int64) { f.Service.Down = n }),
		{serviceSection, "TimeoutSec"}:      put(timeout, func(f *File, n int64) { f.Service.Up, f.Service.Down = n, n }),
		{serviceSection, "ExecStart"}:       put(command, func(f *File, l []string) { f.Service.Exec = l }),

		{timerSection, "OnCalendar"}:         trigger(calendar),
		{timerSection, "OnActiveSec"}:        trigger(behind(api.OnActive)),
		{timerSection, "OnBootSec"}:          trigger(behind(api.OnBoot)),
		{timerSection, "OnStartupSec"}:       trigger(behind(api.OnStartup)),
		{timerSection, "OnUnitActiveSec"}:    trigger(behind(api.OnUnitActive)),
		{timerSection, "OnUnitInactiveSec"}:  trigger(behind(api.OnUnitInactive)),
		{timerSection, "AccuracySec"}:        put(ending, func(f *File, n int64) { f.Timer.Accuracy = max(n, finest) }),
		{timerSection, "RandomizedDelaySec"}: put(ending, func(f *File, n int64) { f.Timer.Random = n }),
		{timerSection, "Persistent"}:         put(onOff, func(f *File, on bool) { f.Timer.Persistent = on }),
		{timerSection, "OnClockChange"}:      put(onOff, func(f *File, on bool) { f.Timer.OnClock = on }),
		{timerSection, "OnTimezoneChange"}:   put(onOff, func(f *File, on bool) { f.Timer.OnZone = on }),
		{timerSection, "Unit"}:               put(triggered, func(f *File, name string) { f.Timer.Unit = name }),
	}
}

// saysNothing: is it a section in which anything may stand?
func saysNothing(section string) bool {
	return section == installSection || strings.HasPrefix(section, othersPrefix)
}

// isOf: may units of that kind have the section?
func isOf(section string, kind uint8) bool {
	switch section {
	case serviceSection:
		return kind == api.Service
	case timerSection:
		return kind == api.Timer
	}
	return true
}

// put is of a directive whose value takes the place of the one that was there. Readers tell errors of their own layers; too many words alone are no wrong value.
func put[T any](read func(value string) (T, api.Errno), to func(f *File, told T)) setter {
	return func(f *File, value string) api.Errno {
		told, err := read(value)
		switch err {
		case api.OK:
			to(f, told)
			return api.OK
		case api.ErrLimit:
			return api.ErrLimit
		}
		return api.ErrValue
	}
}

// names is of a directive whose names are put behind those that are there.
func names(at func(f *File) *[]string) setter {
	return func(f *File, value string) api.Errno {
		more, err := namesOf(value)
		if err != api.OK {
			return err
		}
		l := at(f)
		if len(more) == 0 {
			*l = nil
		}
		if len(*l)+len(more) > api.MaxList {
			return api.ErrLimit
		}
		*l = append(*l, more...)
		return api.OK
	}
}

// trigger is of a directive whose triggers are put behind those that are there.
func trigger(read func(value string) (Trigger, api.Errno)) setter {
	return func(f *File, value string) api.Errno {
		if value == "" {
			f.Timer.Triggers = nil
			return api.OK
		}
		t, err := read(value)
		if err != api.OK {
			return api.ErrValue
		}
		if len(f.Timer.Triggers) >= api.MaxList {
			return api.ErrLimit
		}
		f.Timer.Triggers = append(f.Timer.Triggers, t)
		return api.OK
	}
}

// nothing is of a directive that takes anything, and says nothing.
func nothing(*File, string) api.Errno { return api.OK }

// namesOf are a value's words, if they all are units' names.
func namesOf(value string) ([]string, api.Errno) {
	var l []string
	// No name has a blank: so each run of other bytes is a word for itself. Split of the whole value would hide a wrong name among too many.
	for _, text := range strings.FieldsFunc(value, isBlank) {
		word, err := words.Split(text)
		if err != api.OK {
			return nil, api.ErrValue
		}
		if _, err := Kind(word[0]); err != api.OK {
			return nil, api.ErrValue
		}
		l = append(l, word...)
	}
	return l, api.OK
}

func isBlank(r rune) bool { return strings.ContainsRune(blanks, r) }

// onOff is what a switch's word says.
func onOff(value string) (bool, api.Errno) {
	switch value {
	case "yes", "true", "on", "1":
		return true, api.OK
	case "no", "false", "off", "0":
		return false, api.OK
	}
	return false, api.ErrValue
}

// ending is a span that is not infinite.
func ending(value string) (int64, api.Errno) {
	n, err := timespan.Parse(value)
	if n == api.Infinity {
		return 0, api.ErrValue
	}
	return n, err
}

// timeout is a span after which one waits no more; 0 is never.
func timeout(value string) (int64, api.Errno) {
	n, err := timespan.Parse(value)
	if err == api.OK && n == 0 {
		return api.Infinity, api.OK
	}
	return n, err
}

// burst is how many digits tell.
func burst(value string) (int64, api.Errno) {
	// A sign ahead of them would be read as well.
	if strings.Trim(value, digits) != "" {
		return 0, api.ErrValue
	}
	n, err := strconv.ParseInt(value, 10, 64)
	if err != nil || n > mostBurst {
		return 0, api.ErrValue
	}
	return n, api.OK
}

// among reads one of some words.
func among(says map[string]uint8) func(value string) (uint8, api.Errno) {
	return func(value string) (uint8, api.Errno) {
		n, ok := says[value]
		if !ok {
			return 0, api.ErrValue
		}
		return n, api.OK
	}
}

func types() map[string]uint8 {
	return map[string]uint8{"simple": Simple, "oneshot": Oneshot, "exec": Exec}
}

func restarts() map[string]uint8 {
	return map[string]uint8{"no": Never, "always": Always, "on-success": OnSuccess, "on-failure": OnFailure}
}

// command is what a service runs. An empty value says that it is nothing; one of blanks alone has no word either, but does not say so.
func command(value string) ([]string, api.Errno) {
	l, err := words.Split(value)
	if err == api.OK && len(l) == 0 && value != "" {
		return nil, api.ErrValue
	}
	return l, err
}

// calendar is a trigger that elapses by a calendar.
func calendar(value string) (Trigger, api.Errno) {
	_, err := cal.Parse(value)
	return Trigger{Kind: api.OnCalendar, Text: value}, err
}

// behind tells triggers of one kind, which elapse a span behind something.
func behind(kind uint8) func(value string) (Trigger, api.Errno) {
	return func(value string) (Trigger, api.Errno) {
		n, err := ending(value)
		return Trigger{Kind: kind, Span: n}, err
	}
}

// triggered is the name of a unit that a timer may start.
func triggered(value string) (string, api.Errno) {
	kind, err := Kind(value)
	if err != api.OK || kind == api.Timer {
		return "", api.ErrValue
	}
	return value, api.OK
}
