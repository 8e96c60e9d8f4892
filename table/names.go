package table

// place is where the command of a name in great letters stands among the rows. Its names are told apart in three parts, as one switch of all would be too long to be read.
func place(name string) int {
	if at := placeOfTextOrAny(name); at != atNone {
		return at
	}
	if at := placeOfHashOrList(name); at != atNone {
		return at
	}
	return placeOfSetOrPoint(name)
}

// placeOfTextOrAny is that of the commands for texts, for keys of any kind, and for no keys.
func placeOfTextOrAny(name string) int {
	switch name {
	case "PING":
		return atPing
	case "ECHO":
		return atEcho
	case "GET":
		return atGet
	case "SET":
		return atSet
	case "DEL":
		return atDel
	case "EXISTS":
		return atExists
	case "TYPE":
		return atType
	case "APPEND":
		return atAppend
	case "STRLEN":
		return atStrlen
	case "INCRBY":
		return atIncrby
	case "MGET":
		return atMget
	case "MSET":
		return atMset
	case "EXPIRE":
		return atExpire
	case "TTL":
		return atTtl
	case "PERSIST":
		return atPersist
	case "DUMP":
		return atDump
	case "RESTORE":
		return atRestore
	case "KEYSLOT":
		return atKeyslot
	case "COUNT":
		return atCount
	case "KEYS":
		return atKeys
	}
	return atNone
}

func placeOfHashOrList(name string) int {
	switch name {
	case "HSET":
		return atHset
	case "HGET":
		return atHget
	case "HDEL":
		return atHdel
	case "HLEN":
		return atHlen
	case "HALL":
		return atHall
	case "LPUSH":
		return atLpush
	case "RPUSH":
		return atRpush
	case "LPOP":
		return atLpop
	case "RPOP":
		return atRpop
	case "LLEN":
		return atLlen
	case "LINDEX":
		return atLindex
	case "LRANGE":
		return atLrange
	case "LTRIM":
		return atLtrim
	}
	return atNone
}

func placeOfSetOrPoint(name string) int {
	switch name {
	case "SADD":
		return atSadd
	case "SREM":
		return atSrem
	case "SHAS":
		return atShas
	case "SALL":
		return atSall
	case "SCARD":
		return atScard
	case "SUNION":
		return atSunion
	case "SINTER":
		return atSinter
	case "SDIFF":
		return atSdiff
	case "PSET":
		return atPset
	case "PGET":
		return atPget
	case "PADD":
		return atPadd
	case "PMUL":
		return atPmul
	case "PTURN":
		return atPturn
	case "PNORM":
		return atPnorm
	}
	return atNone
}
