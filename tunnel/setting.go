package tunnel

import (
	"iter"

	"lucifer/api"
)

// setting is what the damper of each part is set to; those of parts that there are not are closed.
type setting [api.TunnelParts]int

// read returns the setting of a list, and whether the list is one of so many parts.
func read(list []int, parts int) (setting, bool) {
	var s setting
	if len(list) != parts {
		return setting{}, false
	}
	for i, damper := range list {
		if damper < 0 || damper > api.TunnelDamper {
			return setting{}, false
		}
		s[i] = damper
	}
	return s, true
}

// list returns the numbers of a setting of so many parts.
func (s setting) list(parts int) []int { return s[:parts:parts] }

// settings produces all settings of so many parts, in their order.
func settings(parts int) iter.Seq[setting] {
	return func(yield func(setting) bool) {
		var now setting
		var turn func(part int) bool
		turn = func(part int) bool {
			if part == parts {
				return yield(now)
			}
			for damper := range api.TunnelDamper + 1 {
				now[part] = damper
				if !turn(part + 1) {
					return false
				}
			}
			return true
		}
		turn(0)
	}
}
