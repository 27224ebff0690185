package sbox

import "testing"

// TestMadeOnce looks inside ("both tables are made once"), since no answer tells when a table was made, or how often.
func TestMadeOnce(t *testing.T) {
	asks := map[string]func(b *Box){
		"Sub":  func(b *Box) { b.Sub(0) },
		"Back": func(b *Box) { b.Back(0) },
	}
	for name, ask := range asks {
		b := New()
		none := [bytesInAll]byte{}
		if b.sub != none || b.back != none {
			t.Errorf("ahead of %s: made, though none was asked for", name)
		}
		ask(b)
		if b.sub == none || b.back == none {
			t.Errorf("behind %s: not both are made", name)
		}
		// Others are laid in their places: were they made anew, they would be gone.
		b.sub, b.back = [bytesInAll]byte{7: 1}, [bytesInAll]byte{7: 2}
		if b.Sub(7) != 1 || b.Back(7) != 2 {
			t.Errorf("behind %s: made again", name)
		}
	}
}
