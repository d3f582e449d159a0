package interp

import "cupel/api"

// node is a node of a program, with where it stands, so that a step need not look for that.
type node struct {
	api.Node // without kids
	site     api.Site
	kids     []node
}

// placed is a declaration with the places of its nodes.
func placed(d api.Node) node {
	n, _ := placedFrom(d, api.Site{Name: d.S})
	return n
}

// placedFrom is a tree whose first node stands at a site, and the site behind its last one.
func placedFrom(tree api.Node, site api.Site) (node, api.Site) {
	n := node{Node: tree, site: site}
	n.Kids = nil
	site.Node++
	for _, kid := range tree.Kids {
		var k node
		k, site = placedFrom(kid, site)
		n.kids = append(n.kids, k)
	}
	return n, site
}
