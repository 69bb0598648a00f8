// Package wicket: forms that ask no more than they need: see DOC.md.
package wicket

import (
	"strings"

	"wicket/api"
	"wicket/check"
	"wicket/parse"
	"wicket/token"
	"wicket/tree"
	"wicket/typing"
)

// Model is a model that was read.
type Model struct{ items []tree.Item }

// Load reads a model (P3).
func Load(text string) (*Model, api.Errno, int) {
	if len(text) > api.MaxModel {
		return nil, api.ErrLong, 0
	}
	items, errno, place := parse.Items(text)
	if errno != api.OK {
		return nil, errno, place
	}
	if fault := typing.FirstFault(items); fault >= 0 {
		return nil, api.ErrType, items[fault].Place()
	}
	return &Model{items}, api.OK, 0
}

// Print writes it (P4). Of a model that did not come out there is nothing to write.
func (m *Model) Print() string {
	if m == nil {
		return ""
	}
	var written strings.Builder
	for _, item := range m.items {
		written.WriteString(token.Join(item.Tokens))
		written.WriteByte('\n')
	}
	return written.String()
}

// Check looks whether a table has a rule for everything, and no two (P5). In
// a model that did not come out there is no table.
func (m *Model) Check(table string) (api.Verdict, api.Errno) {
	if m == nil {
		return api.Verdict{}, api.ErrTable
	}
	for _, item := range m.items {
		if item.Kind == tree.Table && item.Name == table {
			return check.Table(item, m.items), api.OK
		}
	}
	return api.Verdict{}, api.ErrTable
}
