package setup

import (
	"testing"

	"courier/api"
)

// The chapter's examples.

func TestExample1(t *testing.T) {
	says(t, example, exampleSetup())
}

func TestExample2(t *testing.T) {
	refuses(t, with(10, "tries 17"), api.ErrLine, 10)
	refuses(t, ahead(11, "tries 3"), api.ErrTwice, 11)
	refuses(t, with(9, "every 010"), api.ErrLine, 9)
	refuses(t, without(9), api.ErrMissing, 12)
	refuses(t, with(4, "app A B"), api.ErrLine, 4)
	refuses(t, with(1, "start 2026010500"), api.ErrLine, 1)
	refuses(t, "", api.ErrMissing, 1)
	refuses(t, "side b", api.ErrLine, 1)
	refuses(t, "side a", api.ErrMissing, 1)
}

func TestExample3(t *testing.T) {
	refuses(t, with(6, `marks |^~\\&`), api.ErrLine, 6)
	says(t, with(6, `marks |^~\&`), exampleSetup())
	refuses(t, with(5, "facility"), api.ErrLine, 5)
	refuses(t, with(4, `app "LAB"x`), api.ErrLine, 4)
}

func TestExample4(t *testing.T) {
	refused(t, "the zero Setup", Check(api.Setup{}), api.ErrSetup, 1)
	want := exampleSetup().Sides[0]
	want.Sequence = false
	if side, err := Default("LAB", ""); err != nil || side != want {
		t.Errorf("Default: %+v, %v", side, err)
	}
	_, err := Default("", "x")
	refused(t, "Default", err, api.ErrLine, 1)
}
