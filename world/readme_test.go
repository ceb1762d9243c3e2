package world

import (
	"os"
	"regexp"
	"strings"
	"testing"
)

// The README's script has the README's report.
func TestReadme(t *testing.T) {
	text, err := os.ReadFile("../README.md")
	if err != nil {
		t.Fatal(err)
	}
	_, rest, ok := strings.Cut(string(text), "A script, with its setup left out")
	parts := strings.Split(rest, "~~~\n")
	if !ok || len(parts) < 5 {
		t.Fatal("the README has no script")
	}
	script := regexp.MustCompile(`(?m)^((?:[a-z]+(?: [0-9A-Z]+)+)|.*") {2,}.*$`).ReplaceAllString(parts[1], "$1")
	if got := Play(head + script); got != parts[3] {
		t.Errorf("%s\nhas\n%s\nwant\n%s", script, got, parts[3])
	}
}
