package tmpl

import "strings"

// Where in HTML something stands.
const (
	inData = iota
	inTag
	inEndTag
	inValue
	inRaw
	inComment
	inDeclaration
)

// What there is of an address.
const (
	noAddress   = iota
	newAddress  // nothing
	halfAddress // an insert
	wordAddress // text that can be a part of a scheme
	restAddress // all that says where it leads
)

// place is where in HTML something stands, with all that what follows depends on.
type place struct {
	in        int
	element   string // of a tag, a value or what is raw
	attribute string // of a value
	address   int    // of a value
}

// addContexts gives each Insert its context. It returns where something cannot stand, or -1.
func (t *template) addContexts() int {
	h := &htmlReader{text: t.text}
	if !h.parts(t.parts) {
		return t.original(h.at)
	}
	if h.place.in != inData {
		return t.original(len(t.text))
	}
	return -1
}

// htmlReader reads a template as HTML. Each method that reads something says whether it can stand there.
type htmlReader struct {
	text   string // with bytes 0 in place of actions
	place  place
	at     int  // the byte that is read, or where something cannot stand
	spoilt bool // a script in which no value can stand
}

func (h *htmlReader) parts(l []*part) bool {
	for _, x := range l {
		if !h.part(x) {
			return false
		}
	}
	return true
}

func (h *htmlReader) part(x *part) bool {
	h.at = x.at
	if x.Kind == Text {
		return h.bytes(x.end)
	}
	if !h.permits(x) {
		return false
	}
	begin := h.place
	for _, l := range [][]*part{x.body, x.other} {
		if !h.parts(l) {
			return false
		}
		if h.place != begin {
			h.at = x.at
			return false
		}
	}
	return true
}

// permits says whether an action can stand where it does.
func (h *htmlReader) permits(x *part) bool {
	switch x.Kind {
	case Insert:
		return h.permitsInsert(x)
	case Call:
		return h.place.in == inData
	}
	return h.place.in == inData || h.place.in == inValue || h.inPlainElement()
}

// inPlainElement says whether this is in an element with nothing but characters in it.
func (h *htmlReader) inPlainElement() bool {
	return h.place.in == inRaw && (h.place.element == "title" || h.place.element == "textarea")
}

func (h *htmlReader) permitsInsert(x *part) bool {
	switch {
	case h.place.in == inData:
		x.context = Data
	case h.inPlainElement():
		x.context = Raw
	case h.place.in == inRaw:
		x.context = Json
		return h.place.element == "script" && !h.spoilt && h.parted(x)
	case h.place.in == inValue && h.place.address == noAddress:
		x.context = Attr
		return !isRisky(h.place.attribute)
	case h.place.in == inValue:
		x.context = Addr
		return h.permitsAddress(x)
	default:
		return false
	}
	return true
}

// permitsAddress says whether something can be inserted in an address: what decides where it leads must be one insert, or text.
func (h *htmlReader) permitsAddress(x *part) bool {
	if h.place.address == newAddress {
		x.first = true
		h.place.address = halfAddress
		return true
	}
	return h.place.address == restAddress
}

// parted says whether an action of a script has bytes around it that part constants from names.
func (h *htmlReader) parted(x *part) bool {
	const partings = " \t\n=()[],;:"
	return x.end < len(h.text) && strings.IndexByte(partings, h.text[x.at-1]) >= 0 && strings.IndexByte(partings, h.text[x.end]) >= 0
}

// isRisky says whether the values of an attribute are a language of their own.
func isRisky(attribute string) bool {
	switch attribute {
	case "style", "srcset", "imagesrcset", "srcdoc", "content":
		return true
	}
	return strings.HasPrefix(attribute, "on")
}

func isAddress(attribute string) bool {
	switch attribute {
	case "href", "xlink:href", "src", "action", "formaction", "cite", "poster", "data", "ping", "background", "manifest", "longdesc":
		return true
	}
	return false
}

// bytes reads the bytes before one. No step goes beyond them, since after them there is a byte 0 or nothing.
func (h *htmlReader) bytes(end int) bool {
	for h.at < end {
		if !h.step() {
			return false
		}
	}
	return true
}

func (h *htmlReader) step() bool {
	switch h.place.in {
	case inData:
		return h.data()
	case inTag:
		return h.tag()
	case inEndTag:
		return h.endTag()
	case inValue:
		return h.value()
	case inRaw:
		return h.raw()
	case inComment:
		return h.upTo("-->")
	}
	return h.upTo(">")
}

// next is a byte so many after this one, or 0, if an action or the end of the text comes first.
func (h *htmlReader) next(n int) byte {
	if h.at+n >= len(h.text) {
		return 0
	}
	return h.text[h.at+n]
}

func (h *htmlReader) begins(s string) bool { return strings.HasPrefix(h.text[h.at:], s) }

// pass goes over so many bytes, and on from a place.
func (h *htmlReader) pass(n int, to place) bool {
	h.at += n
	h.place = to
	return true
}

// upTo goes over a byte, or to data, if a string ends here.
func (h *htmlReader) upTo(end string) bool {
	if h.begins(end) {
		return h.pass(len(end), place{})
	}
	return h.pass(1, h.place)
}

func (h *htmlReader) data() bool {
	next := h.next(1)
	switch {
	case h.next(0) != '<':
	case isLetter(next):
		h.at++
		return h.pass(0, place{in: inTag, element: h.name("-")})
	case next == '/' && isLetter(h.next(2)):
		h.at += 2
		h.name("-")
		return h.pass(0, place{in: inEndTag})
	case h.begins("<!--"):
		return h.comment()
	case next == '!' || next == '?':
		return h.pass(2, place{in: inDeclaration})
	case next == 0 || next == '/' && h.next(2) == 0:
		return false // what comes next could make a tag of it
	}
	return h.pass(1, h.place)
}

// comment begins a comment, if browsers do not end it somewhere else.
func (h *htmlReader) comment() bool {
	inside, _, _ := strings.Cut(h.text[h.at+len("<!--"):], "-->")
	if h.begins("<!-->") || h.begins("<!--->") || strings.Contains(inside, "--!>") {
		return false
	}
	return h.pass(len("<!--"), place{in: inComment})
}

// name goes over letters, digits and some others, and is these in small letters.
func (h *htmlReader) name(others string) string {
	from := h.at
	for c := h.next(0); isLetter(c) || isDigit(c) || strings.IndexByte(others, c) >= 0; c = h.next(0) {
		h.at++
	}
	return lower(h.text[from:h.at])
}

func (h *htmlReader) tag() bool {
	switch c := h.next(0); {
	case isBlank(c) || c == '/':
		return h.pass(1, h.place)
	case c == '>':
		h.at++
		return h.content()
	case isLetter(c) || c == '_' || c == ':':
		return h.attribute()
	}
	return false
}

// attribute reads the name of an attribute, and the beginning of its value.
func (h *htmlReader) attribute() bool {
	name := h.name("-_:.")
	if !h.begins(`="`) {
		return true
	}
	value := place{in: inValue, element: h.place.element, attribute: name}
	if isAddress(name) {
		value.address = newAddress
	}
	return h.pass(2, value)
}

// content begins what comes after a tag.
func (h *htmlReader) content() bool {
	switch h.place.element {
	case "script", "style", "title", "textarea":
		h.place.in = inRaw
		h.spoilt = strings.ContainsAny(h.text[h.at:h.rawEnd()], "\"'`/<\\")
	default:
		h.place = place{}
	}
	return true
}

// rawEnd is where the end tag of what is raw here begins, or where the text ends.
func (h *htmlReader) rawEnd() int {
	for i := h.at; i < len(h.text); i++ {
		if h.isRawEnd(i) {
			return i
		}
	}
	return len(h.text)
}

// isRawEnd says whether the end tag of what is raw begins at a byte.
func (h *htmlReader) isRawEnd(at int) bool {
	name, found := strings.CutPrefix(h.text[at:], "</")
	n := len(h.place.element)
	if !found || len(name) <= n || lower(name[:n]) != h.place.element {
		return false
	}
	c := name[n]
	return c != 0 && c != '-' && !isLetter(c) && !isDigit(c)
}

func (h *htmlReader) endTag() bool {
	switch c := h.next(0); {
	case isBlank(c):
		return h.pass(1, h.place)
	case c == '>':
		return h.pass(1, place{})
	}
	return false
}

func (h *htmlReader) value() bool {
	to := h.place
	switch c := h.next(0); {
	case c == '"':
		to = place{in: inTag, element: to.element}
	case to.address == noAddress:
	case c == '/' || c == '?' || c == '#':
		to.address = restAddress
	case to.address == halfAddress:
		return false
	case to.address == newAddress:
		to.address = wordAddress
	}
	return h.pass(1, to)
}

func (h *htmlReader) raw() bool {
	switch {
	case h.isRawEnd(h.at):
		return h.pass(len("</")+len(h.place.element), place{in: inEndTag})
	case h.begins("<") && h.inPlainElement(), h.begins("<!--") && h.place.element == "script":
		return false
	}
	return h.pass(1, h.place)
}
