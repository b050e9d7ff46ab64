package msg

import (
	"blotter/api"
	"blotter/authtok"
	"blotter/tracker"
)

const maxVersion = 1 << 40

func isVersion(n int) bool { return n >= 0 && n <= maxVersion }

// mayBeTold tells whether a logged mutation can be one.
func mayBeTold(x api.Logged) bool {
	return authtok.Name(x.Client) && x.ID >= 1 && tracker.May(x.M) < 0
}

// fields is what a message has, a list by how many there are, so that messages can be held against each other.
type fields struct {
	client                        string
	from, cookie, last, top, list int
}

func fieldsOf(m api.Msg) fields {
	return fields{client: m.Client, from: m.From, cookie: m.Cookie, last: m.Last, top: m.Top, list: len(m.List)}
}

// mayBe tells whether a message can be one of its kind, which has no fields but that kind's.
func mayBe(m api.Msg) bool {
	has := fieldsOf(m)
	switch m.Kind {
	case api.MPush:
		return has == fields{client: m.Client, list: has.list} && isPush(m)
	case api.MPushed:
		return has == fields{last: m.Last, top: m.Top} && m.Last >= 0 && isVersion(m.Top)
	case api.MPull:
		return has == fields{client: m.Client, cookie: m.Cookie} && authtok.Name(m.Client) && isVersion(m.Cookie)
	case api.MPatch:
		return m.Client == "" && isPatch(m)
	case api.MPoke:
		return has == fields{top: m.Top} && isVersion(m.Top)
	}
	return false
}

// isPush tells whether a push's mutations are its client's, one ID behind the other. (There is at least one, so that client is a name.)
func isPush(m api.Msg) bool {
	if len(m.List) < 1 || len(m.List) > api.MaxBatch {
		return false
	}
	for i, x := range m.List {
		if !mayBeTold(x) || x.Client != m.Client || x.ID != m.List[0].ID+i {
			return false
		}
	}
	return true
}

// isPatch tells whether a patch's numbers go with its mutations, and these can be.
func isPatch(m api.Msg) bool {
	if len(m.List) > api.MaxBatch {
		return false
	}
	for _, x := range m.List {
		if !mayBeTold(x) {
			return false
		}
	}
	// Each number is held against the next, so that no sum of them goes round.
	rising := 0 <= m.From && m.From <= m.Cookie && m.Cookie <= m.Top && m.Top <= maxVersion
	return rising && m.Cookie-m.From == len(m.List) && m.Last >= 0
}
