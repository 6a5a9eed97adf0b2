package label

import (
	"slices"

	"evenpace/api"
)

// named is a name that is there. A loop's cannot be set.
type named struct {
	name         string
	secret, loop bool
}

// checker goes through a program as it would be done. What is wrong first stays, so that its methods need not ask each other.
type checker struct {
	arrays []api.Var
	names  []named
	work   int
	lets   int
	err    api.Errno
}

// refuse takes err, if it fits and nothing was wrong before.
func (c *checker) refuse(fits bool, err api.Errno) {
	if fits && c.err == api.OK {
		c.err = err
	}
}

// block goes through statements; the names that they make end with it.
func (c *checker) block(l []api.Stmt, dark bool) {
	ahead := len(c.names)
	for _, t := range l {
		if c.err != api.OK {
			return
		}
		c.stmt(t, dark)
	}
	c.names = c.names[:ahead]
}

func (c *checker) stmt(t api.Stmt, dark bool) {
	c.work++
	c.refuse(c.work > api.MaxWork, api.ErrMuch)
	switch t.Kind {
	case api.StLet:
		c.let(t, dark)
	case api.StSet:
		c.set(t, dark)
	case api.StPut:
		c.put(t, dark)
	case api.StIf:
		dark = c.expr(part(t.Args, 0), dark) || dark
		c.block(t.Then, dark)
		c.block(t.Else, dark)
	case api.StFor:
		c.loop(t, dark)
	case api.StRet:
		c.expr(part(t.Args, 0), dark)
		c.refuse(dark, api.ErrLabel)
	}
}

func (c *checker) let(t api.Stmt, dark bool) {
	secret := c.expr(part(t.Args, 0), dark)
	c.refuse(c.taken(t.Name), api.ErrName)
	c.refuse(!t.Secret && (secret || dark), api.ErrLabel)
	c.lets++
	c.refuse(c.lets > api.MaxLets, api.ErrMuch)
	c.names = append(c.names, named{name: t.Name, secret: t.Secret})
}

func (c *checker) set(t api.Stmt, dark bool) {
	secret := c.expr(part(t.Args, 0), dark)
	v, there := c.byName(t.Name)
	c.refuse(!there || v.loop, api.ErrNone)
	c.refuse(!v.secret && (secret || dark), api.ErrLabel)
}

func (c *checker) put(t api.Stmt, dark bool) {
	place := part(t.Args, 0)
	seen := c.expr(place, dark)
	secret := c.expr(part(t.Args, 1), dark)
	v := c.at(t.Name, place, seen, dark)
	c.refuse(!v.Secret && (secret || dark), api.ErrLabel)
}

// loop goes through each round anew, as each counts. One without statements would count nothing, however many rounds it has, so it has none.
func (c *checker) loop(t api.Stmt, dark bool) {
	c.refuse(c.taken(t.Name), api.ErrName)
	if len(t.Then) == 0 {
		return
	}
	ahead := len(c.names)
	c.names = append(c.names, named{name: t.Name, loop: true})
	for i := 0; i < t.N && c.err == api.OK; i++ {
		c.block(t.Then, dark)
	}
	c.names = c.names[:ahead]
}

// expr tells whether e is secret.
func (c *checker) expr(e api.Expr, dark bool) bool {
	switch e.Kind {
	case api.ExNum:
		return false
	case api.ExName:
		v, there := c.byName(e.Name)
		c.refuse(!there, api.ErrNone)
		return v.secret
	case api.ExAt:
		place := part(e.Args, 0)
		return c.at(e.Name, place, c.expr(place, dark), dark).Secret
	}
	secret := false
	for _, a := range e.Args {
		secret = c.expr(a, dark) || secret
	}
	return secret
}

// at looks whether a place of an array may be asked for, and has that array. In the dark a trap would be seen, so there the place must be sure.
func (c *checker) at(name string, place api.Expr, secret, dark bool) api.Var {
	i := find(c.arrays, name)
	if i < 0 {
		c.refuse(true, api.ErrNone)
		return api.Var{}
	}
	v := c.arrays[i]
	sure := place.Kind == api.ExNum && place.N < v.Size
	c.refuse(secret || dark && !sure, api.ErrLabel)
	return v
}

func (c *checker) byName(name string) (named, bool) {
	i := slices.IndexFunc(c.names, func(v named) bool { return v.name == name })
	if i < 0 {
		return named{}, false
	}
	return c.names[i], true
}

// taken tells whether nothing new can be called so.
func (c *checker) taken(name string) bool {
	_, there := c.byName(name)
	return there || find(c.arrays, name) >= 0
}

// part is the expression at a place of l; of no kind, if there is none.
func part(l []api.Expr, at int) api.Expr {
	if at < len(l) {
		return l[at]
	}
	return api.Expr{}
}
