package names

import "vigil/api"

// What a name within a monitor is.
const (
	aVariable = 1 + iota
	aMethod
)

// scope has of each monitor's name the names within it, and what each of them is.
type scope map[string]map[string]int

// declare takes in all monitors, with what they have, up to the first name that is there already.
func (s scope) declare(mons []api.Monitor) (api.Errno, int) {
	for _, m := range mons {
		if s[m.Name] != nil {
			return api.ErrTwice, m.At
		}
		within := map[string]int{}
		s[m.Name] = within
		for _, v := range m.Vars {
			if within[v.Name] != 0 {
				return api.ErrTwice, v.At
			}
			within[v.Name] = aVariable
		}
		for _, f := range m.Methods {
			if within[f.Name] != 0 {
				return api.ErrTwice, f.At
			}
			within[f.Name] = aMethod
		}
	}
	return api.OK, 0
}

// checkRoles tells the first role whose name is there already, or of which there are none or too many.
func checkRoles(roles []api.Role) (api.Errno, int) {
	seen := map[string]int{}
	for _, r := range roles {
		if seen[r.Name] != 0 {
			return api.ErrTwice, r.At
		}
		seen[r.Name]++
		if !r.Star && (r.Count < 1 || r.Count > api.MaxCount) {
			return api.ErrMany, r.At
		}
	}
	return api.OK, 0
}
