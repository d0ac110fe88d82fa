package tests

import (
	"os"
	"runtime/debug"
	"testing"
)

// The tests make a great many small lists that are gone at once: collected less often they are through in a third of the time.
func TestMain(m *testing.M) {
	debug.SetGCPercent(800)
	os.Exit(m.Run())
}
