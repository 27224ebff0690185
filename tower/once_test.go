package tower

import (
	"testing"

	"visor/api"
)

// TestMadeOnce looks inside (P6.2), since no answer tells when a matrix was made, or how often.
func TestMadeOnce(t *testing.T) {
	asks := map[string]func(f *Field){
		"In":  func(f *Field) { f.In() },
		"Out": func(f *Field) { f.Out() },
	}
	for name, ask := range asks {
		f := New()
		if f.in != (api.Mat{}) || f.out != (api.Mat{}) {
			t.Errorf("ahead of %s: made, though none was asked for", name)
		}
		ask(f)
		if f.in == (api.Mat{}) || f.out == (api.Mat{}) {
			t.Errorf("behind %s: not both are made", name)
		}
		// Others are laid in their places: were they made anew, they would be gone.
		f.in, f.out = api.Mat{1}, api.Mat{2}
		if f.In() != (api.Mat{1}) || f.Out() != (api.Mat{2}) {
			t.Errorf("behind %s: made again", name)
		}
	}
}
