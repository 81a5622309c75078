package percent

import (
	"slices"
	"strings"

	"postern/api"
	"postern/scalar"
)

const (
	betweenFields = "&"
	behindName    = "="
)

// Fields is the fields of a form.
func Fields(s string) []api.Field {
	var l []api.Field
	for piece := range strings.SplitSeq(s, betweenFields) {
		if piece != "" {
			l = append(l, field(piece))
		}
	}
	return l
}

// field is what a piece between two & says.
func field(piece string) api.Field {
	// Cut ahead of decoding: what is coded never parts a name from its value.
	name, value, _ := strings.Cut(piece, behindName)
	return api.Field{Name: cleanForm(name), Value: cleanForm(value)}
}

func cleanForm(s string) string { return scalar.Clean(FormDecode(s)) }

// Written is fields as a form.
func Written(l []api.Field) string {
	x := formSet()
	var b strings.Builder
	for i, f := range l {
		if i > 0 {
			b.WriteString(betweenFields)
		}
		b.WriteString(formBy(f.Name, x))
		b.WriteString(behindName)
		b.WriteString(formBy(f.Value, x))
	}
	return b.String()
}

// Get is the first value of a name, and whether there is one.
func Get(l []api.Field, name string) (string, bool) {
	at := find(l, name)
	if at < 0 {
		return "", false
	}
	return strings.Clone(l[at].Value), true
}

// All is the values of a name.
func All(l []api.Field, name string) []string {
	var values []string
	for _, f := range l {
		if f.Name == name {
			values = append(values, strings.Clone(f.Value))
		}
	}
	return values
}

// Set is fields with one value for a name, where its first one stood or behind all.
func Set(l []api.Field, name, value string) []api.Field {
	at := find(l, name)
	if at < 0 {
		at = len(l)
	}
	set := append(Without(l[:at], name), apart(api.Field{Name: name, Value: value}))
	return append(set, Without(l[at:], name)...)
}

// Without is fields without a name.
func Without(l []api.Field, name string) []api.Field {
	var left []api.Field
	for _, f := range l {
		if f.Name != name {
			left = append(left, apart(f))
		}
	}
	return left
}

// Sorted is fields by the UTF-16 units of their names.
func Sorted(l []api.Field) []api.Field {
	var sorted []api.Field
	for _, f := range l {
		sorted = append(sorted, apart(f))
	}
	slices.SortStableFunc(sorted, func(a, b api.Field) int { return scalar.Compare(a.Name, b.Name) })
	return sorted
}

// find is the place of the first field of a name; -1: there is none.
func find(l []api.Field, name string) int {
	return slices.IndexFunc(l, func(f api.Field) bool { return f.Name == name })
}

// apart is a field in memory of its own, as an answer shares none with what was handed in.
func apart(f api.Field) api.Field {
	return api.Field{Name: strings.Clone(f.Name), Value: strings.Clone(f.Value)}
}
