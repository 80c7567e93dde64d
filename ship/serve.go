package ship

import (
	"strings"

	"masthead/api"
)

// Codes of replies.
const (
	codeFound = 200
	codeMoved = 301
	codeNone  = 404
)

// Serve is the reply to a request.
func Serve(l []api.Out, moved []Redirect, request string) (Reply, api.Errno) {
	good, _, e := Moved(l, moved)
	if e != api.OK {
		return Reply{}, e
	}
	if !strings.HasPrefix(request, "/") || len(request) > api.MaxPath {
		return Reply{}, api.ErrPath
	}
	return serve(l, newAddresses(good), request), api.OK
}

// serve is the reply of valid outputs and redirects that have been resolved.
func serve(l []api.Out, moved addresses, request string) Reply {
	rest, _ := cutTarget(request)
	address := decode(rest)
	path, e := Path(address)
	if e != api.OK {
		return Reply{Code: codeNone}
	}
	if i, ok := find(l, path, pathOf); ok {
		return Reply{Code: codeFound, Path: path, Body: l[i].Body}
	}
	if !strings.HasSuffix(address, "/") && has(l, path+"/"+indexFile) {
		return Reply{Code: codeMoved, Path: address + "/"}
	}
	if to, ok := moved.ofPath(path); ok {
		return Reply{Code: codeMoved, Path: to}
	}
	return Reply{Code: codeNone}
}
