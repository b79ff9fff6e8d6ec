package tone_test

import (
	"math/rand"
	"testing"

	"custos/api"
	"custos/tone"
)

func TestNew(t *testing.T) {
	for key := -4; key <= 4; key++ {
		for step, alter := range all(t, begin(t, key)) {
			if alter != keyed(key, step) {
				t.Errorf("At(%d) in key %d: %d", step, key, alter)
			}
		}
	}
	for _, key := range noKeys {
		if s, e := tone.New(key); s != nil || e != api.ErrKey {
			t.Errorf("New(%d): %v, %d", key, s, e)
		}
	}
}

func TestStateExample(t *testing.T) {
	s := begin(t, 1)
	for _, x := range []struct{ step, alter, acc int }{{31, 1, 0}, {31, 0, 3}, {31, 0, 0}, {38, 1, 0}} {
		if acc, e := s.Print(x.step, x.alter); acc != x.acc || e != api.OK {
			t.Errorf("Print(%d, %d): %d, %d", x.step, x.alter, acc, e)
		}
	}
	if alter, e := s.Hear(31, 3); alter != 0 || e != api.ErrAcc {
		t.Errorf("Hear of a second natural: %d, %d", alter, e)
	}
	if alter, e := s.Hear(31, 1); alter != 1 || e != api.OK {
		t.Errorf("Hear of a sharp: %d, %d", alter, e)
	}
}

// TestPrint prints each alteration after each other one.
func TestPrint(t *testing.T) {
	accs := map[int]int{1: 1, -1: 2, 0: 3}
	for key := -4; key <= 4; key++ {
		for step := range 70 {
			for before := -1; before <= 1; before++ {
				for after := -1; after <= 1; after++ {
					s := begin(t, key)
					want := all(t, s)
					s.Print(step, before)
					acc, e := s.Print(step, after)
					if before == after && acc != 0 || before != after && acc != accs[after] || e != api.OK {
						t.Errorf("key %d, Print(%d, %d) after %d: %d, %d", key, step, after, before, acc, e)
					}
					want[step] = after
					if all(t, s) != want {
						t.Errorf("key %d, after Print(%d, %d): %v", key, step, after, all(t, s))
					}
				}
			}
		}
	}
}

// TestHear hears each accidental after each alteration.
func TestHear(t *testing.T) {
	for key := -4; key <= 4; key++ {
		for step := range 70 {
			for before := -1; before <= 1; before++ {
				for acc, alter := range []int{before, 1, -1, 0} {
					s := begin(t, key)
					s.Print(step, before)
					want, wantE := all(t, s), api.OK
					want[step] = alter
					if acc != 0 && alter == before {
						alter, wantE = 0, api.ErrAcc
					}
					if got, e := s.Hear(step, acc); got != alter || e != wantE {
						t.Errorf("key %d, Hear(%d, %d) after %d: %d, %d", key, step, acc, before, got, e)
					}
					if all(t, s) != want {
						t.Errorf("key %d, after Hear(%d, %d): %v", key, step, acc, all(t, s))
					}
				}
			}
		}
	}
}

func TestStateErrors(t *testing.T) {
	s := begin(t, -2)
	s.Print(30, 1)
	before := all(t, s)
	for _, step := range noSteps {
		if n, e := s.At(step); n != 0 || e != api.ErrPitch {
			t.Errorf("At(%d): %d, %d", step, n, e)
		}
		for _, other := range append([]int{0, 1}, extremes...) {
			if n, e := s.Print(step, other); n != 0 || e != api.ErrPitch {
				t.Errorf("Print(%d, %d): %d, %d", step, other, n, e)
			}
			if n, e := s.Hear(step, other); n != 0 || e != api.ErrPitch {
				t.Errorf("Hear(%d, %d): %d, %d", step, other, n, e)
			}
		}
	}
	for step := range 70 {
		for _, alter := range noAlters {
			if n, e := s.Print(step, alter); n != 0 || e != api.ErrPitch {
				t.Errorf("Print(%d, %d): %d, %d", step, alter, n, e)
			}
		}
		for _, acc := range noAccs {
			if n, e := s.Hear(step, acc); n != 0 || e != api.ErrAcc {
				t.Errorf("Hear(%d, %d): %d, %d", step, acc, n, e)
			}
		}
	}
	if all(t, s) != before {
		t.Error("errors have changed a state")
	}
}

// TestNoStates calls the methods of nil, and of states that New and Copy did not return.
func TestNoStates(t *testing.T) {
	taken := *begin(t, 3)
	for name, s := range map[string]*tone.State{"nil": nil, "a zero value": {}, "another variable": &taken} {
		for _, step := range append([]int{0, 31}, noSteps...) {
			if n, e := s.At(step); n != 0 || e != api.ErrNil {
				t.Errorf("%s: At: %d, %d", name, n, e)
			}
			if n, e := s.Print(step, 1); n != 0 || e != api.ErrNil {
				t.Errorf("%s: Print: %d, %d", name, n, e)
			}
			if n, e := s.Hear(step, 1); n != 0 || e != api.ErrNil {
				t.Errorf("%s: Hear: %d, %d", name, n, e)
			}
			if n, e := s.Hear(step, 9); n != 0 || e != api.ErrNil {
				t.Errorf("%s: Hear: %d, %d", name, n, e)
			}
		}
		if e := s.Reset(); e != api.ErrNil {
			t.Errorf("%s: Reset: %d", name, e)
		}
		if s.Copy() != nil {
			t.Errorf("%s: Copy", name)
		}
	}
}

func TestReset(t *testing.T) {
	r := rand.New(rand.NewSource(53))
	for key := -4; key <= 4; key++ {
		s := begin(t, key)
		first := all(t, s)
		for range 200 {
			s.Print(r.Intn(70), r.Intn(3)-1)
		}
		if all(t, s) == first {
			t.Error("nothing printed in key", key)
		}
		for range 2 {
			if e := s.Reset(); e != api.OK || all(t, s) != first {
				t.Errorf("Reset in key %d: %d", key, e)
			}
		}
	}
}

func TestCopy(t *testing.T) {
	s := begin(t, 2)
	s.Print(31, -1)
	c := s.Copy()
	d := c.Copy()
	if c == nil || d == nil || all(t, c) != all(t, s) || all(t, d) != all(t, s) {
		t.Fatal("copies differ")
	}
	before := all(t, s)
	c.Print(31, 0)
	c.Hear(40, 2)
	if all(t, s) != before || all(t, d) != before {
		t.Error("a copy changes its origin")
	}
	s.Print(50, 1)
	if n, e := c.At(50); n != 0 || e != api.OK {
		t.Error("an origin changes its copy", n, e)
	}
	if e := d.Reset(); e != api.OK || all(t, d) != all(t, begin(t, 2)) {
		t.Error("Reset of a copy", e)
	}
	if all(t, s) == all(t, d) {
		t.Error("Reset of a copy resets its origin")
	}
}

// TestPrintedIsHeard prints notes in one state and hears them in another one.
func TestPrintedIsHeard(t *testing.T) {
	r := rand.New(rand.NewSource(54))
	for key := -4; key <= 4; key++ {
		writer := begin(t, key)
		reader := writer.Copy()
		for range 2000 {
			if r.Intn(100) == 0 {
				writer.Reset()
				reader.Reset()
			}
			step, alter := r.Intn(70), r.Intn(3)-1
			acc, e := writer.Print(step, alter)
			heard, f := reader.Hear(step, acc)
			if heard != alter || e != api.OK || f != api.OK {
				t.Fatalf("key %d: %d at %d is printed as %d (%d), and heard as %d (%d)", key, alter, step, acc, e, heard, f)
			}
			if all(t, writer) != all(t, reader) {
				t.Fatalf("key %d: the states differ", key)
			}
		}
	}
}
