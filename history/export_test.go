package history

import "docket/api"

// Judge is Check of an order that is another than that of the points.
func Judge(keep int, calls []api.Call, order []int) (api.Verdict, api.Errno) {
	return judge(keep, calls, order)
}
