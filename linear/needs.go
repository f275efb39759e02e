package linear

import (
	"math/bits"

	"foliant/api"
	"foliant/value"
	"foliant/web"
)

// needs finds what pages need.
type needs struct {
	web web.Web
	// shut has the numbers of the items that are not followed: pages and the like, and those from which all that can be reached has been found.
	shut numbers
	// links has, of the items that were followed, the numbers of those that they refer to.
	links map[int]*numbers
}

// needsOf returns the needs of the pages of a valid document.
func needsOf(d api.Doc) *needs {
	n := &needs{web: web.Of(d), links: map[int]*numbers{}}
	for _, i := range d.Items {
		if barred(i.Obj) {
			n.shut.add(i.Num)
		}
	}
	return n
}

// barred reports whether an object is one that no page needs, but for the page that it is.
func barred(o api.Object) bool {
	kind, _ := value.Get(o, "Type")
	return o.Kind == api.KDict && kind.Kind == api.KName && (kind.S == "Page" || kind.S == "Pages" || kind.S == "Catalog")
}

// of returns the numbers of the items that a page needs, but for some that a page before it needs.
func (n *needs) of(page api.Item) numbers {
	var found numbers
	found.add(page.Num)
	back := false
	rest := n.enter(&found, linksOf(n.web, value.Drop(page.Obj, "Parent")), nil)
	for len(rest) > 0 {
		num := rest[len(rest)-1]
		links := n.linksAt(num)
		back = back || links.has(page.Num)
		rest = n.enter(&found, links, rest[:len(rest)-1])
	}
	// What was found may lead back to this page. Another page that gets there then needs what the Parent refers to as well, so that not all that follows has been found.
	if n.shut.has(page.Num) || !back || n.complete(page.Num, &found) {
		others := found
		others.drop(page.Num)
		n.shut.addAll(&others)
	}
	return found
}

// complete reports whether all that the item num refers to is found or not to be followed.
func (n *needs) complete(num int, found *numbers) bool {
	known := *found
	return len(n.enter(&known, n.linksAt(num), nil)) == 0
}

// enter puts those numbers of links that are to be followed and have not been found into found, and behind rest. It goes through the words of the sets itself, since each page may have to look at every item anew.
func (n *needs) enter(found, links *numbers, rest []int) []int {
	for i := range links {
		fresh := links[i] &^ (found[i] | n.shut[i])
		found[i] |= fresh
		for ; fresh != 0; fresh &= fresh - 1 {
			rest = append(rest, i*word+bits.TrailingZeros64(fresh))
		}
	}
	return rest
}

// linksAt returns the numbers of the items that the item num refers to.
func (n *needs) linksAt(num int) *numbers {
	if n.links[num] == nil {
		i, _ := n.web.Num(num)
		n.links[num] = linksOf(n.web, i.Obj)
	}
	return n.links[num]
}

// linksOf returns the numbers of the items that o refers to.
func linksOf(w web.Web, o api.Object) *numbers {
	var links numbers
	for ref := range web.Refs(o) {
		if i, ok := w.Item(ref); ok {
			links.add(i.Num)
		}
	}
	return &links
}
