package op

// row is what a code is called, and what the number beside it is the number of, if there is one.
type row struct {
	name string
	pool rune
}

// table has each code's row at its number.
var table = [...]row{
	Int:    {"int", 'n'},
	Null:   {"null", 0},
	Local:  {"local", 'l'},
	Store:  {"store", 'l'},
	Add:    {"add", 0},
	Sub:    {"sub", 0},
	Mul:    {"mul", 0},
	Div:    {"div", 0},
	Mod:    {"mod", 0},
	Less:   {"less", 0},
	Most:   {"most", 0},
	Same:   {"same", 0},
	Other:  {"other", 0},
	Neg:    {"neg", 0},
	Not:    {"not", 0},
	Get:    {"get", 'f'},
	Put:    {"put", 'f'},
	New:    {"new", 'c'},
	Array:  {"array", 't'},
	Load:   {"load", 't'},
	Save:   {"save", 't'},
	Length: {"length", 0},
	Cast:   {"cast", 'c'},
	Is:     {"is", 'c'},
	Call:   {"call", 'm'},
	Static: {"static", 'm'},
	Jump:   {"jump", 'j'},
	Unless: {"unless", 'j'},
	Return: {"return", 0},
	Print:  {"print", 0},
	Pop:    {"pop", 0},
	Zero:   {"bool", 'b'},
}
