package table

import "marshalyard/api"

// The places of the commands among the rows. No command stands at atNone: its row is a zero one, as Find tells it for a name that is none.
const (
	atNone = iota
	atPing
	atEcho
	atGet
	atSet
	atDel
	atExists
	atType
	atAppend
	atStrlen
	atIncrby
	atMget
	atMset
	atHset
	atHget
	atHdel
	atHlen
	atHall
	atLpush
	atRpush
	atLpop
	atRpop
	atLlen
	atLindex
	atLrange
	atLtrim
	atSadd
	atSrem
	atShas
	atSall
	atScard
	atSunion
	atSinter
	atSdiff
	atPset
	atPget
	atPadd
	atPmul
	atPturn
	atPnorm
	atExpire
	atTtl
	atPersist
	atDump
	atRestore
	atKeyslot
	atCount
	atKeys
	rowCount
)

// row is a Spec whose parts stand in the order of the chapter's table, so that both can be read side by side.
type row api.Spec

// rows is made in a function, as it is too great for a table at package level.
func rows() [rowCount]row {
	return [rowCount]row{
		atPing:    {"PING", 0, 0, 0, 0, 0, false},
		atEcho:    {"ECHO", 1, 1, 0, 0, 0, false},
		atGet:     {"GET", 1, 1, 1, 1, 1, false},
		atSet:     {"SET", 2, 2, 1, 1, 1, true},
		atDel:     {"DEL", 1, 31, 1, -1, 1, true},
		atExists:  {"EXISTS", 1, 31, 1, -1, 1, false},
		atType:    {"TYPE", 1, 1, 1, 1, 1, false},
		atAppend:  {"APPEND", 2, 2, 1, 1, 1, true},
		atStrlen:  {"STRLEN", 1, 1, 1, 1, 1, false},
		atIncrby:  {"INCRBY", 2, 2, 1, 1, 1, true},
		atMget:    {"MGET", 1, 31, 1, -1, 1, false},
		atMset:    {"MSET", 2, 31, 1, -1, 2, true},
		atHset:    {"HSET", 3, 31, 1, 1, 1, true},
		atHget:    {"HGET", 2, 2, 1, 1, 1, false},
		atHdel:    {"HDEL", 2, 31, 1, 1, 1, true},
		atHlen:    {"HLEN", 1, 1, 1, 1, 1, false},
		atHall:    {"HALL", 1, 1, 1, 1, 1, false},
		atLpush:   {"LPUSH", 2, 31, 1, 1, 1, true},
		atRpush:   {"RPUSH", 2, 31, 1, 1, 1, true},
		atLpop:    {"LPOP", 1, 1, 1, 1, 1, true},
		atRpop:    {"RPOP", 1, 1, 1, 1, 1, true},
		atLlen:    {"LLEN", 1, 1, 1, 1, 1, false},
		atLindex:  {"LINDEX", 2, 2, 1, 1, 1, false},
		atLrange:  {"LRANGE", 3, 3, 1, 1, 1, false},
		atLtrim:   {"LTRIM", 3, 3, 1, 1, 1, true},
		atSadd:    {"SADD", 2, 31, 1, 1, 1, true},
		atSrem:    {"SREM", 2, 31, 1, 1, 1, true},
		atShas:    {"SHAS", 2, 2, 1, 1, 1, false},
		atSall:    {"SALL", 1, 1, 1, 1, 1, false},
		atScard:   {"SCARD", 1, 1, 1, 1, 1, false},
		atSunion:  {"SUNION", 1, 31, 1, -1, 1, false},
		atSinter:  {"SINTER", 1, 31, 1, -1, 1, false},
		atSdiff:   {"SDIFF", 1, 31, 1, -1, 1, false},
		atPset:    {"PSET", 2, 2, 1, 1, 1, true},
		atPget:    {"PGET", 1, 1, 1, 1, 1, false},
		atPadd:    {"PADD", 2, 2, 1, 1, 1, true},
		atPmul:    {"PMUL", 2, 2, 1, 1, 1, true},
		atPturn:   {"PTURN", 2, 2, 1, 1, 1, true},
		atPnorm:   {"PNORM", 1, 1, 1, 1, 1, false},
		atExpire:  {"EXPIRE", 2, 2, 1, 1, 1, true},
		atTtl:     {"TTL", 1, 1, 1, 1, 1, false},
		atPersist: {"PERSIST", 1, 1, 1, 1, 1, true},
		atDump:    {"DUMP", 1, 1, 1, 1, 1, false},
		atRestore: {"RESTORE", 3, 3, 1, 1, 1, true},
		atKeyslot: {"KEYSLOT", 1, 1, 0, 0, 0, false},
		atCount:   {"COUNT", 1, 1, 0, 0, 0, false},
		atKeys:    {"KEYS", 2, 2, 0, 0, 0, false},
	}
}
