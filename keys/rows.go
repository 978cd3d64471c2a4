package keys

import "quaymaster/api"

// rows are what is known of all keys, in their order.
func rows(yield func(api.Key) bool) {
	for _, k := range [...]api.Key{
		{Name: "HeaderDigest", Kind: api.First, Default: "None", LoginOnly: true},
		{Name: "DataDigest", Kind: api.First, Default: "None", LoginOnly: true},
		{Name: "MaxConnections", Kind: api.Least, Low: 1, High: 65535, Default: "1", Nothing: true, LoginOnly: true},
		{Name: "ErrorRecoveryLevel", Kind: api.Least, Low: 0, High: 2, Default: "0", LoginOnly: true},
		{Name: "InitialR2T", Kind: api.Or, Default: "Yes", Nothing: true, LoginOnly: true},
		{Name: "ImmediateData", Kind: api.And, Default: "Yes", Nothing: true, LoginOnly: true},
		{Name: "MaxRecvDataSegmentLength", Kind: api.Number, Low: 512, High: 16777215, Default: "8192"},
		{Name: "MaxBurstLength", Kind: api.Least, Low: 512, High: 16777215, Default: "262144", Nothing: true, LoginOnly: true},
		{Name: "FirstBurstLength", Kind: api.Least, Low: 512, High: 16777215, Default: "65536", Nothing: true, LoginOnly: true},
		{Name: "DefaultTime2Wait", Kind: api.Most, Low: 0, High: 3600, Default: "2", LoginOnly: true},
		{Name: "DefaultTime2Retain", Kind: api.Least, Low: 0, High: 3600, Default: "20", LoginOnly: true},
		{Name: "MaxOutstandingR2T", Kind: api.Least, Low: 1, High: 65535, Default: "1", Nothing: true, LoginOnly: true},
		{Name: "DataPDUInOrder", Kind: api.Or, Default: "Yes", Nothing: true, LoginOnly: true},
		{Name: "DataSequenceInOrder", Kind: api.Or, Default: "Yes", Nothing: true, LoginOnly: true},
		{Name: "InitiatorName", Kind: api.Told, LoginOnly: true},
		{Name: "InitiatorAlias", Kind: api.Told},
		{Name: "TargetName", Kind: api.Told, LoginOnly: true},
		{Name: "SessionType", Kind: api.Told, Default: "Normal", LoginOnly: true},
	} {
		if !yield(k) {
			return
		}
	}
}
