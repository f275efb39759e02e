package sample

import (
	"strings"

	"foliant/api"
)

// Bad is an object that is not valid, or a document that is not, with its error.
type Bad[T any] struct {
	Is  T
	Err api.Errno
}

// BadObjects returns objects that are not valid.
func BadObjects() []Bad[api.Object] {
	return []Bad[api.Object]{
		{Nest(Ref(1, 0), api.MaxDepth), api.ErrDeep},
		{api.Object{Kind: 10}, api.ErrKind},
		{api.Object{Kind: api.KArray, Keys: []string{"A"}, Kids: []api.Object{Ref(1, 0)}}, api.ErrKind},
		{Array(Ref(1, 0), api.Object{Kind: api.KStream}), api.ErrKind},
		{Ref(api.MaxNum+1, 0), api.ErrRange},
		{Array(Ref(1, 0), Ref(0, 0)), api.ErrRange},
		{api.Object{Kind: api.KString, S: strings.Repeat("s", api.MaxString+1)}, api.ErrLong},
		{Wide(api.MaxKids + 1), api.ErrMany},
		{Dict("B A", Ref(1, 0), Ref(2, 0)), api.ErrForm},
		{api.Object{Kind: api.KDict, Keys: []string{"A", "B"}, Kids: []api.Object{Ref(1, 0)}}, api.ErrForm},
		{Dict("A", api.Object{}), api.ErrForm},
	}
}

// BadDocs returns documents that are not valid.
func BadDocs() []Bad[api.Doc] {
	root, kid := api.Item{Num: 1, Obj: Dict("A", Ref(2, 0))}, api.Item{Num: 2, Obj: Array(Ref(1, 0))}
	list := []Bad[api.Doc]{
		{api.Doc{}, api.ErrKind},
		{Doc(1, api.Item{Num: 0, Obj: Dict("")}, root), api.ErrRange},
		{Doc(1, root, api.Item{Num: 2, Gen: -1}), api.ErrRange},
		{Doc(1, root, api.Item{Num: api.MaxNum + 1}), api.ErrRange},
		{Doc(1, kid, root), api.ErrTwice},
		{Doc(1, root, kid, kid), api.ErrTwice},
		{Doc(1, root, api.Item{Num: 2, Obj: Ref(1, 0)}), api.ErrKind},
		{Doc(1, root, api.Item{Num: 2, Obj: api.Object{Kind: api.KStream, Keys: []string{"Type"}, Kids: []api.Object{{Kind: api.KName, S: "XRef"}}}}), api.ErrKind},
		{api.Doc{Items: []api.Item{root, kid}, Trailer: Ref(1, 0)}, api.ErrKind},
		{api.Doc{Items: []api.Item{root, kid}, Trailer: Dict("Root Size", Ref(1, 0), Ref(2, 0))}, api.ErrForm},
		{Doc(2, root, kid), api.ErrTrail},
		{Doc(3, root, kid), api.ErrTrail},
		{api.Doc{Items: []api.Item{root, kid}, Trailer: Dict("Root", Ref(1, 1))}, api.ErrTrail},
		{api.Doc{Items: []api.Item{root, kid}, Trailer: Dict("Info", Ref(1, 0))}, api.ErrTrail},
	}
	for _, b := range BadObjects() {
		list = append(list, Bad[api.Doc]{Doc(1, root, api.Item{Num: 2, Obj: b.Is}), b.Err}, Bad[api.Doc]{api.Doc{Items: []api.Item{root, kid}, Trailer: Dict("ID Root", b.Is, Ref(1, 0))}, b.Err})
	}
	return list
}
