package code

import "evenpace/api"

// layer lays instructions over slots, one behind the other.
type layer struct {
	code   []api.Instr
	starts []int // of each instruction of old, and of each detour, where it is now
}

// lay has it done in the mode in which less is seen. The mode is put back ahead of each end, where nothing is seen in either. Jumps are told as of old first, as they lead on to what is not laid yet.
func lay(code []api.Instr, s spans) []api.Instr {
	n := noughtsOf(code, s)
	var detours []int
	l := &layer{}
	l.emit(api.Instr{Op: api.OpOn, D: modeSlot})
	for at, i := range code {
		l.start(n.ahead[at])
		if ends(i) {
			l.emit(api.Instr{Op: api.OpBack, A: modeSlot})
		}
		i = s.inSlots(i)
		if n.across[at] != nil {
			i.Imm = len(code) + len(detours)
			detours = append(detours, at)
		}
		l.emit(i)
	}
	// Noughts on one way alone stand behind all else: on the other one what is in their slots may still be read.
	for _, at := range detours {
		l.start(n.across[at])
		l.emit(api.Instr{Op: api.OpJump, Imm: code[at].Imm})
	}
	l.lead()
	return l.code
}

func (l *layer) emit(i api.Instr) {
	l.code = append(l.code, i)
}

// start is where what comes next can be led to, with noughts in slots.
func (l *layer) start(slots []int) {
	l.starts = append(l.starts, len(l.code))
	for _, slot := range slots {
		l.emit(api.Instr{Op: api.OpConst, D: slot})
	}
}

// lead has jumps lead to where what they led to starts now.
func (l *layer) lead() {
	for at, i := range l.code {
		if leads(i) {
			l.code[at].Imm = l.starts[i.Imm]
		}
	}
}

func leads(i api.Instr) bool {
	return i.Op == api.OpJump || i.Op == api.OpZero
}

func ends(i api.Instr) bool {
	return i.Op == api.OpRet || i.Op == api.OpTrap
}
