package share

import "potence/api"

// isOwed says whether something can be owed.
func isOwed(o api.Owed) bool {
	return 1 <= len(o.Who) && len(o.Who) <= api.MaxName && isUpTo(o.Birds, api.MaxFlock)
}

// Pay returns how many birds each one gets, one after the other, and how many are left.
func Pay(birds int, l []api.Owed) ([]int, int, api.Errno) {
	if !isUpTo(birds, api.MaxFlock) {
		return nil, 0, api.ErrArg
	}
	if len(l) > api.MaxDues {
		return nil, 0, api.ErrLimit
	}
	var paid []int
	for _, o := range l {
		if !isOwed(o) {
			return nil, 0, api.ErrArg
		}
		gets := min(o.Birds, birds)
		paid = append(paid, gets)
		birds -= gets
	}
	return paid, birds, api.OK
}
