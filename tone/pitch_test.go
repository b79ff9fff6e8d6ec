package tone_test

import (
	"strings"
	"testing"

	"custos/api"
	"custos/tone"
)

func TestSemitone(t *testing.T) {
	for _, x := range []struct {
		p    api.Pitch
		want int
	}{
		{api.Pitch{}, 0}, {api.Pitch{Alter: -1}, -1}, {api.Pitch{Step: 6}, 11}, {api.Pitch{Step: 7}, 12},
		{api.Pitch{Step: 28}, 48}, {api.Pitch{Step: 28, Alter: -1}, 47}, {api.Pitch{Step: 34, Alter: -1}, 58},
		{api.Pitch{Step: 29}, 50}, {api.Pitch{Step: 30}, 52}, {api.Pitch{Step: 31}, 53}, {api.Pitch{Step: 32}, 55}, {api.Pitch{Step: 33}, 57},
		{api.Pitch{Step: 69, Alter: 1}, 120},
	} {
		if n, e := tone.Semitone(x.p); n != x.want || e != api.OK {
			t.Errorf("Semitone(%v): %d, %d", x.p, n, e)
		}
	}
	for _, p := range pitches() {
		if n, e := tone.Semitone(p); n != sounds(p) || e != api.OK {
			t.Errorf("Semitone(%v): %d, %d", p, n, e)
		}
	}
	for _, p := range noPitches() {
		if n, e := tone.Semitone(p); n != 0 || e != api.ErrPitch {
			t.Errorf("Semitone(%v): %d, %d", p, n, e)
		}
	}
}

func TestNames(t *testing.T) {
	for _, x := range []struct {
		p    api.Pitch
		name string
	}{
		{api.Pitch{Step: 28}, "c4"}, {api.Pitch{Step: 28, Alter: -1}, "cb4"}, {api.Pitch{Step: 28, Alter: 1}, "c#4"},
		{api.Pitch{Step: 34}, "b4"}, {api.Pitch{Step: 34, Alter: -1}, "bb4"}, {api.Pitch{Step: 34, Alter: 1}, "b#4"},
		{api.Pitch{}, "c0"}, {api.Pitch{Step: 69}, "b9"}, {api.Pitch{Step: 68, Alter: -1}, "ab9"},
	} {
		if s, e := tone.Name(x.p); s != x.name || e != api.OK {
			t.Errorf("Name(%v): %q, %d", x.p, s, e)
		}
		if p, e := tone.Parse(x.name); p != x.p || e != api.OK {
			t.Errorf("Parse(%q): %v, %d", x.name, p, e)
		}
	}
	for _, p := range noPitches() {
		if s, e := tone.Name(p); s != "" || e != api.ErrPitch {
			t.Errorf("Name(%v): %q, %d", p, s, e)
		}
	}
}

// named returns all pitches by their names, put together from the letters, the marks and the digits.
func named() map[string]api.Pitch {
	m := map[string]api.Pitch{}
	for octave, digit := range strings.Split("0123456789", "") {
		for letter, name := range strings.Split(names, "") {
			for alter, mark := range map[int]string{-1: "b", 0: "", 1: "#"} {
				m[name+mark+digit] = api.Pitch{Step: 7*octave + letter, Alter: alter}
			}
		}
	}
	return m
}

func TestNamesOfAllPitches(t *testing.T) {
	m := named()
	if len(m) != 210 {
		t.Fatal(len(m), "names")
	}
	for name, p := range m {
		if s, e := tone.Name(p); s != name || e != api.OK {
			t.Errorf("Name(%v): %q, %d", p, s, e)
		}
		if q, e := tone.Parse(name); q != p || e != api.OK {
			t.Errorf("Parse(%q): %v, %d", name, q, e)
		}
	}
}

// TestTextsThatAreNoNames tries all texts of at most three bytes of some kinds, and some others.
func TestTextsThatAreNoNames(t *testing.T) {
	m := named()
	l := []string{""}
	for i := 0; i < len(l); i++ {
		s := l[i]
		if _, ok := m[s]; !ok {
			if p, e := tone.Parse(s); p != (api.Pitch{}) || e != api.ErrForm {
				t.Errorf("Parse(%q): %v, %d", s, p, e)
			}
		}
		if len(s) < 3 {
			for _, c := range "abcghABCG#0489:/- \n\x00\x7f~" {
				l = append(l, s+string(c))
			}
		}
	}
	for _, s := range []string{"c10", "c##4", "C4", "c4 ", " c4", "cbb4", "c#b4", "cb#4", "c44", "é4", "cé", "c♯4", "\xff4", "c\xff4", "c#\xff", "c4\x00", "c#4c#4", strings.Repeat("c4", 1<<16), "c" + strings.Repeat("#", 1<<16) + "4"} {
		if p, e := tone.Parse(s); p != (api.Pitch{}) || e != api.ErrForm {
			t.Errorf("Parse(%q): %v, %d", s[:min(9, len(s))], p, e)
		}
	}
	for b := range 256 {
		for _, s := range []string{string([]byte{byte(b)}) + "4", "c" + string([]byte{byte(b)}), "c" + string([]byte{byte(b)}) + "4"} {
			p, e := tone.Parse(s)
			if want, ok := m[s]; p != want || (e == api.OK) != ok || !ok && e != api.ErrForm {
				t.Errorf("Parse(%q): %v, %d", s, p, e)
			}
		}
	}
}
