package sample

import (
	"strconv"

	"watersmeet/api"
	"watersmeet/bag"
	"watersmeet/check"
	"watersmeet/exec"
)

// Bags tells data that conforms to q, so many times, of so many rows a table at most, and the bags that q makes of them.
func (d *Dice) Bags(q api.Query, times, rows int) ([]api.Data, [][]api.Row) {
	var data []api.Data
	var bags [][]api.Row
	for range times {
		one := d.Data(q.Cols, rows)
		made, _ := exec.Run(q, one)
		data, bags = append(data, one), append(bags, made)
	}
	return data, bags
}

// Fault tells what is wrong with a query that should make these bags of the data; an empty text, if nothing is.
func Fault(q api.Query, data []api.Data, bags [][]api.Row) string {
	if errno := check.Query(q); errno != api.OK {
		return errno.Error()
	}
	for i, d := range data {
		if got, errno := exec.Run(q, d); errno != api.OK || !bag.Same(got, bags[i]) {
			return "another bag of the data " + strconv.Itoa(i)
		}
	}
	return ""
}
