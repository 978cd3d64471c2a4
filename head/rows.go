package head

import (
	"strconv"
	"strings"

	"quaymaster/api"
)

// row is what there is of an op. Its fields are told as the document tells them, so that both can be laid side by side: a name, where it begins, and how many bytes it has.
type row struct {
	op     int
	name   string
	flags  int
	fields string
}

// rows are all there are.
func rows(yield func(row) bool) {
	for _, r := range [...]row{
		{api.NopOut, "NopOut", 128, "LUN 8 8, ITT 16 4, TTT 20 4, CmdSN 24 4, ExpStatSN 28 4"},
		{api.ScsiCommand, "ScsiCommand", 231, "LUN 8 8, ITT 16 4, Length 20 4, CmdSN 24 4, ExpStatSN 28 4, CdbA 32 8, CdbB 40 8"},
		{api.TaskRequest, "TaskRequest", 255, "LUN 8 8, ITT 16 4, RefTag 20 4, CmdSN 24 4, ExpStatSN 28 4, RefCmdSN 32 4, ExpDataSN 36 4"},
		{api.LoginRequest, "LoginRequest", 207, "VersionMax 2 1, VersionMin 3 1, ISID 8 6, TSIH 14 2, ITT 16 4, CID 20 2, CmdSN 24 4, ExpStatSN 28 4"},
		{api.TextRequest, "TextRequest", 192, "LUN 8 8, ITT 16 4, TTT 20 4, CmdSN 24 4, ExpStatSN 28 4"},
		{api.DataOut, "DataOut", 128, "LUN 8 8, ITT 16 4, TTT 20 4, ExpStatSN 28 4, DataSN 36 4, Offset 40 4"},
		{api.LogoutRequest, "LogoutRequest", 255, "ITT 16 4, CID 20 2, CmdSN 24 4, ExpStatSN 28 4"},
		{api.Snack, "Snack", 143, "LUN 8 8, ITT 16 4, TTT 20 4, ExpStatSN 28 4, BegRun 40 4, RunLength 44 4"},
		{api.NopIn, "NopIn", 128, "LUN 8 8, ITT 16 4, TTT 20 4, StatSN 24 4, ExpCmdSN 28 4, MaxCmdSN 32 4"},
		{api.ScsiResponse, "ScsiResponse", 158, "Response 2 1, Status 3 1, ITT 16 4, SnackTag 20 4, StatSN 24 4, ExpCmdSN 28 4, MaxCmdSN 32 4, ExpDataSN 36 4, BidiResidual 40 4, Residual 44 4"},
		{api.TaskResponse, "TaskResponse", 128, "Response 2 1, ITT 16 4, StatSN 24 4, ExpCmdSN 28 4, MaxCmdSN 32 4"},
		{api.LoginResponse, "LoginResponse", 207, "VersionMax 2 1, VersionActive 3 1, ISID 8 6, TSIH 14 2, ITT 16 4, StatSN 24 4, ExpCmdSN 28 4, MaxCmdSN 32 4, StatusClass 36 1, StatusDetail 37 1"},
		{api.TextResponse, "TextResponse", 192, "LUN 8 8, ITT 16 4, TTT 20 4, StatSN 24 4, ExpCmdSN 28 4, MaxCmdSN 32 4"},
		{api.DataIn, "DataIn", 199, "Status 3 1, LUN 8 8, ITT 16 4, TTT 20 4, StatSN 24 4, ExpCmdSN 28 4, MaxCmdSN 32 4, DataSN 36 4, Offset 40 4, Residual 44 4"},
		{api.LogoutResponse, "LogoutResponse", 128, "Response 2 1, ITT 16 4, StatSN 24 4, ExpCmdSN 28 4, MaxCmdSN 32 4, Time2Wait 40 2, Time2Retain 42 2"},
		{api.R2T, "R2T", 128, "LUN 8 8, ITT 16 4, TTT 20 4, StatSN 24 4, ExpCmdSN 28 4, MaxCmdSN 32 4, R2TSN 36 4, Offset 40 4, Length 44 4"},
		{api.Async, "Async", 128, "LUN 8 8, ITT 16 4, StatSN 24 4, ExpCmdSN 28 4, MaxCmdSN 32 4, Event 36 1, VCode 37 1, Parameter1 38 2, Parameter2 40 2, Parameter3 42 2"},
		{api.Reject, "Reject", 128, "Reason 2 1, ITT 16 4, StatSN 24 4, ExpCmdSN 28 4, MaxCmdSN 32 4, DataSN 36 4"},
	} {
		if !yield(r) {
			return
		}
	}
}

// find is the row of an op. ErrArg: there is none.
func find(op int) (row, error) {
	for r := range rows {
		if r.op == op {
			return r, nil
		}
	}
	return row{}, api.ErrArg
}

// list are the fields of a row, one by one.
func (r row) list() []api.Field {
	texts := strings.Split(r.fields, ", ")
	l := make([]api.Field, len(texts))
	for i, text := range texts {
		name, numbers, _ := strings.Cut(text, " ")
		at, size, _ := strings.Cut(numbers, " ")
		l[i] = api.Field{Name: name, At: number(at), Size: number(size)}
	}
	return l
}

// number is what a number in a row is. None of them fails: they stand in this file.
func number(text string) int {
	n, _ := strconv.Atoi(text)
	return n
}
