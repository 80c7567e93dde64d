package tmpl_test

import (
	"strings"
	"testing"

	"masthead/api"
	"masthead/tmpl"
)

// marked is a template in which ^ stands where its fault is, and ~ for an Insert.
func marked(s string) (text string, fault tmpl.Fault) {
	before, after, found := strings.Cut(s, "^")
	expand := func(s string) string { return strings.ReplaceAll(s, "~", "{{ . }}") }
	text = expand(before) + expand(after)
	if found {
		fault = tmpl.Fault{Name: "x", At: len(expand(before)), E: api.ErrContext}
	}
	return text, fault
}

// P5.7: where inserts can stand, and in which contexts. A ~ is an Insert, a ^ where the fault is.
func TestContexts(t *testing.T) {
	for s, want := range map[string][]int{
		"":                                       nil,
		"~":                                      {tmpl.Data},
		"a~b~":                                   {tmpl.Data, tmpl.Data},
		"<p>~</p>~":                              {tmpl.Data, tmpl.Data},
		"a < ~ <3 < ":                            {tmpl.Data},
		"</3 </>~":                               {tmpl.Data},
		"&~;":                                    {tmpl.Data},
		"<br/>~<br / >~":                         {tmpl.Data, tmpl.Data},
		"<p\n\t a=\"\">~":                        {tmpl.Data},
		"<p a>~<p a/b>~":                         {tmpl.Data, tmpl.Data},
		"<a-1>~</a-1>":                           {tmpl.Data},
		"<P>~</P\n >~":                           {tmpl.Data, tmpl.Data},
		"<!doctype html>~":                       {tmpl.Data},
		"<?x?>~<!>~":                             {tmpl.Data, tmpl.Data},
		"<!-- <p \" ' -->~<!---->~":              {tmpl.Data, tmpl.Data},
		"<!-- -- > --->~":                        {tmpl.Data},
		"<!--a->--><!-- <!-- -->~":               {tmpl.Data},
		"<title>~</title>~":                      {tmpl.Raw, tmpl.Data},
		"<TITLE>~</Title >~":                     {tmpl.Raw, tmpl.Data},
		"<textarea>a\"~&</textarea>~":            {tmpl.Raw, tmpl.Data},
		"<title/>~</title>":                      {tmpl.Raw},
		"<titles>~</titles>":                     {tmpl.Data},
		"</title>~":                              {tmpl.Data},
		"<style>a<b</styles></style >~":          {tmpl.Data},
		"<script>a<b \"'`\\/</script>~":          {tmpl.Data},
		"<script>a</scriptx></script\n>~":        {tmpl.Data},
		"<SCRIPT>f( ~ )</sCRIPT>~":               {tmpl.Json, tmpl.Data},
		"<p a=\"~\" b=\"x~y\">~":                 {tmpl.Attr, tmpl.Attr, tmpl.Data},
		"<p a=\"<>'\n~\"b=\"~\">":                {tmpl.Attr, tmpl.Attr},
		"<p _a:b.c-1=\"~\" :x=\"~\">":            {tmpl.Attr, tmpl.Attr},
		"<p a=\"~~\">":                           {tmpl.Attr, tmpl.Attr},
		"<p title=\"javascript:~\">":             {tmpl.Attr},
		"<script src=\"~\" type=\"~\"></script>": {tmpl.Addr, tmpl.Attr},
		"<title class=\"~\">~</title>":           {tmpl.Attr, tmpl.Raw},
		"<p data-on=\"~\" o=\"~\" styles=\"~\" contents=\"~\" hrefs=\"~\" data-src=\"~\" xlink=\"~\">": {tmpl.Attr, tmpl.Attr, tmpl.Attr, tmpl.Attr, tmpl.Attr, tmpl.Attr, tmpl.Attr},
		"<a href=\"~\">":               {tmpl.Addr},
		"<a href=\"~/~\">":             {tmpl.Addr, tmpl.Addr},
		"<a href=\"~?x:~#~\">":         {tmpl.Addr, tmpl.Addr, tmpl.Addr},
		"<a href=\"~#\">":              {tmpl.Addr},
		"<a href=\"/~~\">":             {tmpl.Addr, tmpl.Addr},
		"<a href=\"?~\" href=\"#~\">":  {tmpl.Addr, tmpl.Addr},
		"<a href=\"a:b/~\">":           {tmpl.Addr},
		"<a HREF=\"x?~\" Title=\"~\">": {tmpl.Addr, tmpl.Attr},
		"<a xlink:href=\"~\" src=\"~\" action=\"~\" formaction=\"~\" cite=\"~\" poster=\"~\" data=\"~\" ping=\"~\" background=\"~\" manifest=\"~\" longdesc=\"~\">": {4, 4, 4, 4, 4, 4, 4, 4, 4, 4, 4},
		"{{# c }}<{{# c }}p>~<{{# c }}/p{{# c }}>":                                    {tmpl.Data},
		"<!{{# c }}-- --{{# c }}>~":                                                   {tmpl.Data},
		"<p {{# c }}a{{# c }}={{# c }}\"{{# c }}~\"{{#}}>":                            {tmpl.Attr},
		"<script> {{# c }}~{{# c }} </scr{{#}}ipt>~":                                  {tmpl.Json, tmpl.Data},
		"<title>a{{# < }}~</ti{{# c }}tle>~":                                          {tmpl.Raw, tmpl.Data},
		"{{ if . }}~{{ else }}<b>~</b>{{ end }}~":                                     {1, 1, 1},
		"{{ if . }}<b>{{ else }}</b>{{ end }}":                                        nil,
		"{{ each x in . }}<p a=\"~\">{{ end }}":                                       {tmpl.Attr},
		"<p a=\"{{ if . }}~{{ else if . }}~{{ end }}\">":                              {tmpl.Attr, tmpl.Attr},
		"<p style=\"{{ if . }}a{{ end }}{{ let x = . }}\">":                           nil,
		"<p onclick=\"{{ each x in . }}a{{ end }}\">":                                 nil,
		"<title>{{ with . }}~{{ end }}{{ let x = . }}</title>":                        {tmpl.Raw},
		"<title>{{ if . }}</title>~<title>{{ else }}</title><title>{{ end }}</title>": {tmpl.Data},
		"<a b=\"{{ if . }}\"><a b=\"{{ end }}~\">":                                    {tmpl.Attr},
		"<a b=\"{{ if . }}\"><A B=\"{{ end }}~\">":                                    {tmpl.Attr},
		"<a href=\"/{{ if . }}x{{ end }}{{ if . }}~{{ end }}\">":                      {tmpl.Addr},
		"<a href=\"{{ if . }}{{ end }}~\">":                                           {tmpl.Addr},
		"<a href=\"x{{ if . }}y{{ else }}z{{ end }}/~\">":                             {tmpl.Addr},
		"<a href=\"~{{ if . }}{{ end }}{{ let x = . }}/\">":                           {tmpl.Addr},
		"{{ let x = . }}{{ call \"x\" . }}{{ if . }}{{ call \"x\" . }}{{ end }}":      nil,
		"<script>f( ~ , ~\t);\n~\n:~=~[~]~,~;~(~)</script>":                           {5, 5, 5, 5, 5, 5, 5, 5, 5, 5},
		"<script> ~ {{ \"'\" }} {{ .a[\"/<`\"] }} </script>":                          {5, 5, 5},
		"<script> ~ </script><script> '/\"`\\< </script>":                             {5},
		"<script> ~ </script><style>'</style>'":                                       {5},
		"{{ if . }}x{{ end }}":                                                        nil,
	} {
		text, _ := marked(s)
		got, e := tmpl.Contexts(text)
		expect(t, s, got, e, want, api.OK)
		if fault := tmpl.Check(set("x", text)); fault != (tmpl.Fault{}) {
			t.Errorf("%q: %+v", s, fault)
		}
	}
}

// P5.7: what cannot stand where it does, and where the fault is.
func TestContextFaults(t *testing.T) {
	for _, s := range []string{
		// DATA
		"a^<", "a^</", "^<~", "^</~", "^<{{ if . }}{{ end }}", "a{{ if . }}^<{{ end }}", "^<{{ let x = . }}", "^<{{# x }}", "<p>^<", "{{ if . }}a^<{{ else }}{{ end }}",
		// TAG
		"<p^", "<p ^", "<p a^", "<p^~>", "<a-^~>", "<p ^~>", "<p a^~>", "<p a^=~>", "<p a^=b>", "<p a^='~'>", "<p a ^=\"~\">", "<p a^= \"~\">", "<p ^\"a\">", "<p ^1>", "<p ^-a>", "<p ^<b>", "<p^\x80>", "<p^\\>", "<p a=\"\"^=\"\">", "<p^.b>",
		"<p^{{ if . }}{{ end }}>", "<p ^{{ each x in . }}a{{ end }}>", "<p ^{{ let x = . }}>", "<p ^{{ call \"x\" . }}>", "<p ^{{ with . }}>{{ end }}",
		// end tags
		"</p^", "</p ^", "</p^/>", "</p ^a>", "</p^~>", "</p ^~>", "</p^{{ if . }}{{ end }}>", "</p^\"",
		// VALUE
		"<p a=\"^", "<p a=\"~^", "<p a=\"^{{ call \"x\" . }}\">", "<p onclick=\"^~\">", "<p ON=\"^~\">", "<p on=\"a^~\">", "<p style=\"^~\">", "<p srcset=\"^~\">", "<p imagesrcset=\"^~\">", "<p srcdoc=\"^~\">", "<p Content=\"^~\">",
		// addresses
		"<a href=\"~^:80/\">", "<a href=\"x^~\">", "<a href=\"~^~\">", "<a href=\"~^x/~\">", "<a href=\"javascript:^~\">", "<a href=\" ^~\">", "<a href=\"~^ \">", "<a href=\"~{{ if . }}^x{{ end }}\">", "<a src=\"~^.png\">",
		"<a href=\"^{{ if . }}/{{ end }}\">", "<a href=\"^{{ if . }}x{{ end }}\">", "<a href=\"^{{ if . }}~{{ end }}\">", "<a href=\"~^{{ if . }}/{{ end }}\">", "<a href=\"x^{{ with . }}/{{ end }}\">", "<a href=\"^{{ if . }}{{ else }}/{{ end }}\">", "<a href=\"{{ if . }}^{{ if . }}/{{ end }}/{{ end }}\">",
		// comments and declarations
		"^<!-->-->", "^<!--->-->", "^<!-- --!> -->", "^<!----!>-->", "a^<!--> ~ -->", "<!--^~-->", "<!-- ^~ -->", "<!-- -^{{ if . }}{{ end }}-->", "<!-- ^{{ call \"x\" . }} -->", "<!-- ^{{ let x = . }} -->", "<!-- a^", "<!-- --^~>", "^<!-- ~ --!> -->", "^<!-- --!>", "<!--^{{ if . }}>{{ end }}-->",
		"<!^", "<!^~", "<!-^~-->", "<!-^{{ if . }}-{{ end }}-->", "<!doctype ^~>", "<?^~?>", "<!a ^{{ let x = . }}>", "<?^", "<!-^", "<!doctype^",
		// RAW
		"<title>a^<b</title>", "<title>a^</b></title>", "<title>^</titlex></title>", "<title>^</title-></title>", "<title>^</title1></title>", "<title>^</title", "<title>^</title~>", "<title>^<~</title>", "<textarea>^<!-- --></textarea>", "<textarea>~^", "<title></title^/>", "<title></title ^x>", "<title>^<title></title>", "<title>^{{ call \"x\" . }}</title>",
		"<title></title><title>^", "<textarea>^</title", "<title>^</textarea></title>",
		"<style>^~</style>", "<style>^{{ if . }}a{{ end }}</style>", "<style>^{{ let x = . }}</style>", "<style>^{{ call \"x\" . }}</style>", "<style></style^~>", "<style>a^", "<style></styles>^", "<style></style^",
		"<script>a^<!-- </script>", "<script>^<!--", "<script> ^{{ if . }}a{{ end }}</script>", "<script> ^{{ let x = . }} </script>", "<script> ^{{ call \"x\" . }} </script>", "<script>a^", "<script></scriptx>^",
		// inserts in scripts
		"<script>^~ </script>", "<script>a^~ </script>", "<script> ^~a</script>", "<script> ^~</script>", "<script> ^~", "<script> ^~~ </script>", "<script> ^~{{ let x = . }} </script>", "<script>1 + ^~ 'a'</script>", "<script> \" ^~ </script>", "<script> ' ^~ </script>", "<script> ` ^~ </script>", "<script> / ^~ </script>", "<script> \\ ^~ </script>", "<script> < ^~ </script>", "<script> ^~ < </script>", "<script> ^~ </script-x></script>", "<script> ^~ <!-- </script>", "<script>-^~ </script>", "<script> ^~. </script>", "<script>\x80^~ </script>", "<script>.^~ </script>", "<script> ^~* </script>", "<script> ^~ \\", "<script> ^~ / {{ if . }}{{ end }}",
		"<script> ~ {{# '/ }}^~</script>", "<script> ~ ~ ^", "<script> ^~ ~ '</script>",
		// Bodies and Elses
		"^{{ if . }}<p a=\"{{ end }}\">", "^{{ if . }}<p {{ end }}>", "^{{ if . }}<title>{{ end }}</title>", "^{{ if . }}{{ else }}<title>{{ end }}</title>", "^{{ if . }}<title>{{ else }}<title>{{ end }}</title>",
		"^{{ each x in . }}<!-- {{ end }}-->", "^{{ with . }}<!a{{ end }}>", "^{{ with . }}</p{{ end }}>", "{{ if . }}^{{ if . }}<title>{{ end }}</title>{{ end }}", "^{{ if . }}{{ if . }}{{ end }}<title>{{ end }}</title>",
		"<title>^{{ if . }}</title>{{ end }}", "<title>^{{ if . }}</title><textarea>{{ end }}</textarea>", "<p a=\"^{{ if . }}\">{{ end }}", "<p a=\"^{{ if . }}\" b=\"{{ end }}\">", "<p a=\"^{{ if . }}\"><q a=\"{{ end }}\">", "<p a=\"^{{ if . }}\" {{ end }}", "<p a=\"^{{ if . }}\"><title>{{ end }}",
		"<a href=\"/^{{ if . }}\" href=\"{{ end }}\">",
		"<p a=\"~\"{{# c }} ^~>", "{{# < }}<p{{# c }}^=>",
	} {
		text, want := marked(s)
		if fault := tmpl.Check(set("x", text)); fault != want {
			t.Errorf("%q: %+v, want %+v", s, fault, want)
		}
		l, e := tmpl.Contexts(text)
		expect(t, s, l, e, []int{}, api.ErrContext)
	}
	for text, want := range map[string]tmpl.Fault{
		"{{ if . }}{{ else if . }}<title>{{ end }}": {Name: "x", At: 10, E: api.ErrContext},
		"{{ if . }}<a{{ end }}{{ foo(.) }}":         {Name: "x", At: 21, E: api.ErrName},
		"<{{ if . }}":                               {Name: "x", At: 11, E: api.ErrSyntax},
		"a<":                                        {Name: "x", At: 1, E: api.ErrContext},
		"<p a =\"\">":                               {Name: "x", At: 5, E: api.ErrContext},
	} {
		if fault := tmpl.Check(set("x", text)); fault != want {
			t.Errorf("%q: %+v, want %+v", text, fault, want)
		}
	}
}

// P5.7: the errors of Contexts are those of Parse first.
func TestContextErrors(t *testing.T) {
	for text, want := range map[string]api.Errno{
		wide(tmpl.MaxText + 1): api.ErrLarge,
		"<\x01":                api.ErrByte,
		"<{{ x }}":             api.ErrSyntax,
		"<{{ foo(.) }}":        api.ErrName,
		"<{{" + strings.Repeat("not ", 12) + ".}}": api.ErrDeep,
		"<":                     api.ErrContext,
		"<p {{ . }}>{{ if . }}": api.ErrSyntax,
	} {
		l, e := tmpl.Contexts(text)
		expect(t, text, l, e, []int{}, want)
	}
}
