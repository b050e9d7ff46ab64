package console

import "blotter/api"

// stepOf is the step that a line tells.
func stepOf(l line) api.Step {
	switch l.word {
	case "act":
		return api.Step{Kind: api.SAct, Node: l.numbers[0]}
	case "watch":
		return api.Step{Kind: api.SWatch, Node: l.numbers[0]}
	case "start":
		return api.Step{Kind: api.SStart, Node: l.numbers[0]}
	case "compact":
		return api.Step{Kind: api.SCompact, Node: l.numbers[0]}
	case "carry":
		return api.Step{Kind: api.SCarry, Conn: l.numbers[0], Node: l.numbers[1], N: l.numbers[2]}
	case "cut":
		return api.Step{Kind: api.SCut, Conn: l.numbers[0]}
	case "pass":
		return api.Step{Kind: api.SPass, N: l.numbers[0]}
	case "crash":
		return api.Step{Kind: api.SCrash, Node: l.numbers[0], Keep: l.keep, Tear: l.numbers[1]}
	case "dial":
		return api.Step{Kind: api.SDial}
	case "rotate":
		return api.Step{Kind: api.SRotate}
	case "forge":
		return api.Step{Kind: api.SForge, Conn: l.numbers[0], Bytes: l.bytes}
	}
	return api.Step{Kind: api.SMutate, Node: l.numbers[0], M: mutationOf(l)}
}

// mutationOf is what a line wants done: behind the issue stand a name, a text, or both.
func mutationOf(l line) api.Mutation {
	m := api.Mutation{Kind: kindOf(l.word), Issue: l.texts[0]}
	switch m.Kind {
	case api.KComment, api.KEdit:
		m.Text = l.texts[2]
		fallthrough
	case api.KAssign, api.KUncomment, api.KLabel, api.KUnlabel:
		m.Name = l.texts[1]
	case api.KCreate, api.KTitle, api.KStatus:
		m.Text = l.texts[1]
	}
	return m
}

// kindOf is the kind of mutation that a word asks for.
func kindOf(word string) int {
	switch word {
	case "create":
		return api.KCreate
	case "title":
		return api.KTitle
	case "status":
		return api.KStatus
	case "assign":
		return api.KAssign
	case "comment":
		return api.KComment
	case "edit":
		return api.KEdit
	case "uncomment":
		return api.KUncomment
	case "label":
		return api.KLabel
	case "unlabel":
		return api.KUnlabel
	case "delete":
		return api.KDelete
	}
	return 0
}
