// Package object makes JSON objects of members, and looks into them.
package object

import (
	"blotter/api"
	"blotter/jsonx"
)

// Member is a name, and the value that an object has there.
type Member struct {
	Name  string
	Value api.Json
}

// Of is the object of these members.
func Of(members ...Member) api.Json {
	v := api.Json{Kind: api.JObject}
	for _, m := range members {
		v.Names = append(v.Names, m.Name)
		v.Items = append(v.Items, m.Value)
	}
	return v
}

// Text is a member that is a text.
func Text(name, text string) Member {
	return Member{Name: name, Value: api.Json{Kind: api.JText, Text: text}}
}

// Number is a member that is a number.
func Number(name string, n int) Member {
	return Member{Name: name, Value: api.Json{Kind: api.JInt, Int: int64(n)}}
}

// List is a member that is a list.
func List(name string, items []api.Json) Member {
	return Member{Name: name, Value: api.Json{Kind: api.JList, Items: items}}
}

// TextIn is the text that an object has at a name; empty, where there is none.
func TextIn(v api.Json, name string) string {
	item, _ := jsonx.Get(v, name)
	return item.Text
}

// NumberIn is the number that an object has at a name; 0, where there is none, and of a bool what its Int is.
func NumberIn(v api.Json, name string) int {
	item, _ := jsonx.Get(v, name)
	return int(item.Int)
}

// ItemsIn is the items of the list, or the object, that an object has at a name.
func ItemsIn(v api.Json, name string) []api.Json {
	item, _ := jsonx.Get(v, name)
	return item.Items
}
