package world

import (
	"strings"

	"courier/api"
	"courier/setup"
)

// The lines that divide a script.
const (
	setupLine  = "setup"
	eventsLine = "events"
)

func readScript(text string) (api.Script, error) {
	if len(text) > api.MaxScript {
		return api.Script{}, fault(0, api.ErrLong)
	}
	head, at, err := setupOf(text)
	if err != nil {
		return api.Script{}, err
	}
	made, err := setup.Parse(head)
	if err != nil {
		return api.Script{}, faultOver(placeOf(err)+1, err)
	}
	events, err := readEvents(text, at)
	return api.Script{Setup: made, Events: events}, err
}

// setupOf gives a setup's text out of a script, and the number of the line behind it.
func setupOf(text string) (string, int, error) {
	var head strings.Builder
	last := 0
	for number, line := range lines(text) {
		if number == 1 && line != setupLine {
			return "", 0, fault(1, api.ErrBlock)
		}
		if line == eventsLine {
			return head.String(), number, nil
		}
		if number > 1 {
			head.WriteString(line + "\n")
		}
		last = number
	}
	return "", 0, fault(last+1, api.ErrBlock)
}

// readEvents reads the lines behind one.
func readEvents(text string, behind int) ([]api.Event, error) {
	var events []api.Event
	for number, line := range lines(text) {
		if number <= behind {
			continue
		}
		e, ok := readEvent(line)
		if !ok {
			return nil, fault(number, api.ErrScript)
		}
		if len(events) == api.MaxLines {
			return nil, fault(number, api.ErrMany)
		}
		events = append(events, e)
	}
	return events, nil
}

func writeScript(s api.Script) (string, error) {
	head, err := setup.Print(s.Setup)
	if err != nil {
		return "", faultOver(0, err)
	}
	if !strings.HasSuffix(head, "\n") || hasLine(head, eventsLine) {
		return "", fault(0, api.ErrBlock)
	}
	text, err := writeEvents(s.Events)
	if err != nil {
		return "", err
	}
	text = line(setupLine) + head + line(eventsLine) + text
	if len(text) > api.MaxScript {
		return "", fault(0, api.ErrLong)
	}
	return text, nil
}

func hasLine(text, wanted string) bool {
	for _, line := range lines(text) {
		if line == wanted {
			return true
		}
	}
	return false
}

// writeEvents ends writing where the text is too long for any script; what may not be said is looked for to the end all the same.
func writeEvents(events []api.Event) (string, error) {
	var text strings.Builder
	for i, e := range events {
		line, ok := eventLine(e)
		if !ok || i == api.MaxLines {
			return "", fault(i+1, api.ErrEvent)
		}
		if text.Len() <= api.MaxScript {
			text.WriteString(line)
		}
	}
	return text.String(), nil
}

// mayRun refuses what cannot be played. That a script's text would be too long, or could not be divided, is nothing to a run.
func mayRun(s api.Script) error {
	if err := setup.Check(s.Setup); err != nil {
		return faultOver(0, err)
	}
	_, err := writeEvents(s.Events)
	return err
}
