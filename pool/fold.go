package pool

import (
	"slices"

	"ratchet/window"
)

// folded folds the windows over each channel, none of which is empty, to one item each. Rows are folded first, for all windows beside one another at once: so the work stays small, however large and near to one another windows are.
func folded[T any](list []T, over window.Window, fold func(T, T) T) []T {
	var told []T
	for channel := range slices.Chunk(list, over.Words) {
		for rows := range over.Rows.Windows() {
			row := foldedRows(channel, rows, over.Columns.Length, fold)
			for columns := range over.Columns.Windows() {
				told = append(told, foldedItems(row, columns, fold))
			}
		}
	}
	return told
}

// foldedRows is one row of so many items, from all that are told of channel.
func foldedRows[T any](channel []T, rows []int, length int, fold func(T, T) T) []T {
	all := slices.Clone(channel[rows[0]*length:][:length])
	for _, row := range rows[1:] {
		for column := range all {
			all[column] = fold(all[column], channel[row*length+column])
		}
	}
	return all
}

func foldedItems[T any](row []T, columns []int, fold func(T, T) T) T {
	all := row[columns[0]]
	for _, column := range columns[1:] {
		all = fold(all, row[column])
	}
	return all
}
