package msg

import (
	"blotter/api"
	"blotter/jsonx"
	"blotter/object"
)

// The names of members, and the types of messages.
const (
	typeName   = "type"
	clientName = "client"
	fromName   = "from"
	cookieName = "cookie"
	lastName   = "last"
	topName    = "top"
	listName   = "list"
	idName     = "id"
	mName      = "m"
	kindName   = "kind"
	issueName  = "issue"
	nameName   = "name"
	textName   = "text"
)

// typeOf is what a message of one of the kinds gives as its type.
func typeOf(kind int) string {
	switch kind {
	case api.MPush:
		return "push"
	case api.MPushed:
		return "pushed"
	case api.MPull:
		return "pull"
	case api.MPatch:
		return "patch"
	}
	return "poke"
}

// kindOf is the kind of messages of a type; 0: there is none.
func kindOf(name string) int {
	for kind := api.MPush; kind <= api.MPoke; kind++ {
		if typeOf(kind) == name {
			return kind
		}
	}
	return 0
}

// value is what a message that may be is as JSON.
func value(m api.Msg) api.Json {
	kind := object.Text(typeName, typeOf(m.Kind))
	client := object.Text(clientName, m.Client)
	cookie := object.Number(cookieName, m.Cookie)
	last := object.Number(lastName, m.Last)
	top := object.Number(topName, m.Top)
	switch m.Kind {
	case api.MPush:
		return object.Of(kind, client, object.List(listName, each(m.List, numberedValue)))
	case api.MPushed:
		return object.Of(kind, last, top)
	case api.MPull:
		return object.Of(kind, client, cookie)
	case api.MPatch:
		return object.Of(kind, object.Number(fromName, m.From), cookie, last, top, object.List(listName, each(m.List, loggedValue)))
	}
	return object.Of(kind, top)
}

// each is the values of mutations.
func each(l []api.Logged, value func(api.Logged) api.Json) []api.Json {
	var out []api.Json
	for _, x := range l {
		out = append(out, value(x))
	}
	return out
}

// loggedValue is a logged mutation that tells whose it is.
func loggedValue(x api.Logged) api.Json {
	return object.Of(object.Text(clientName, x.Client), idMember(x), mutationMember(x))
}

// numberedValue is a logged mutation in a push, which tells once whose all of them are.
func numberedValue(x api.Logged) api.Json { return object.Of(idMember(x), mutationMember(x)) }

func idMember(x api.Logged) object.Member { return object.Number(idName, x.ID) }

func mutationMember(x api.Logged) object.Member {
	return object.Member{Name: mName, Value: object.Of(
		object.Number(kindName, x.M.Kind),
		object.Text(issueName, x.M.Issue),
		object.Text(nameName, x.M.Name),
		object.Text(textName, x.M.Text),
	)}
}

// messageIn is the message that a value tells, whatever else it tells, and zero where it tells nothing.
func messageIn(v api.Json) api.Msg {
	m := api.Msg{
		Kind:   kindOf(object.TextIn(v, typeName)),
		Client: object.TextIn(v, clientName),
		From:   object.NumberIn(v, fromName),
		Cookie: object.NumberIn(v, cookieName),
		Last:   object.NumberIn(v, lastName),
		Top:    object.NumberIn(v, topName),
	}
	for _, item := range object.ItemsIn(v, listName) {
		x := loggedIn(item)
		if m.Kind == api.MPush {
			x.Client = m.Client
		}
		m.List = append(m.List, x)
	}
	return m
}

// loggedIn is the logged mutation that a value tells, likewise.
func loggedIn(v api.Json) api.Logged {
	m, _ := jsonx.Get(v, mName)
	return api.Logged{
		Client: object.TextIn(v, clientName),
		ID:     object.NumberIn(v, idName),
		M: api.Mutation{
			Kind:  object.NumberIn(m, kindName),
			Issue: object.TextIn(m, issueName),
			Name:  object.TextIn(m, nameName),
			Text:  object.TextIn(m, textName),
		},
	}
}
