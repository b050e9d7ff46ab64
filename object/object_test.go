package object_test

import (
	"reflect"
	"testing"

	"blotter/api"
	"blotter/jsonx"
	"blotter/object"
)

func TestP13_1Members(t *testing.T) {
	inner := object.Of(object.Text("t", "x"))
	v := object.Of(object.Text("b", "two"), object.Number("a", -1), object.List("l", []api.Json{inner, {}}), object.Member{Name: "o", Value: inner})
	if s, e := jsonx.Print(v); e != api.OK || s != `{"a":-1,"b":"two","l":[{"t":"x"},null],"o":{"t":"x"}}` {
		t.Errorf("%s, error %d", s, e)
	}
	if s, e := jsonx.Print(object.Of()); e != api.OK || s != "{}" {
		t.Errorf("of no members: %s, error %d", s, e)
	}
	if got := object.TextIn(v, "b"); got != "two" {
		t.Errorf("text %q", got)
	}
	if got := object.NumberIn(v, "a"); got != -1 {
		t.Errorf("number %d", got)
	}
	if got := object.ItemsIn(v, "l"); !reflect.DeepEqual(got, []api.Json{inner, {}}) {
		t.Errorf("items %v", got)
	}
	for _, x := range []api.Json{{}, inner, {Kind: api.JList, Items: []api.Json{{}}}, object.Of(object.List("n", nil))} {
		if object.TextIn(x, "n") != "" || object.NumberIn(x, "n") != 0 || len(object.ItemsIn(x, "n")) != 0 {
			t.Errorf("%v has something at n", x)
		}
	}
}
