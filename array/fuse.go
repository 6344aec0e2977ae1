package array

// fuse says how many steps more are done, if it is set.
type fuse struct {
	set  bool
	left int
}

func (f *fuse) burnt() bool { return f.set && f.left == 0 }

func (f *fuse) burn() {
	if f.set {
		f.left--
	}
}

// nextStep counts a step, and so must be the last need; where the fuse refuses it, the array is out.
func nextStep(a *Array) error {
	if a.fuse.burnt() {
		a.out = true
		return refusal{what: "fuse", kind: errBroken}
	}
	a.fuse.burn()
	a.steps++
	return nil
}
