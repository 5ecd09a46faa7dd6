"""How filters are read."""

from surenear.basics.values import kind_of_value
from surenear.errors import InvalidFilter
from surenear.filters.conditions import Both, Compare, Either, Every, Has, Negation, OneOf
from surenear.filters.tokens import read_tokens

MOST_OPEN = 40
COMPARISONS = ("=", "!=", "<", "<=", ">", ">=")


def read_filter(schema, text):
    """Return the condition that a text stands for."""
    return FilterReader(schema, text).whole()


class FilterReader:
    """Reads one filter, token by token."""

    def __init__(self, schema, text):
        self.schema = schema
        self.tokens = read_tokens(text)
        self.length = len(text)
        # The place of the next token in the list, and how many nots and brackets are open.
        self.at = 0
        self.deep = 0

    def whole(self):
        """Return the condition of the whole text."""
        condition = self.any_of()
        if self.at < len(self.tokens):
            raise InvalidFilter("no end", self.here())
        return condition

    def any_of(self):
        """Read conditions with or between them."""
        condition = self.all_of()
        while self.skips("word", "or"):
            condition = Either(condition, self.all_of())
        return condition

    def all_of(self):
        """Read conditions with and between them."""
        condition = self.single()
        while self.skips("word", "and"):
            condition = Both(condition, self.single())
        return condition

    def single(self):
        """Read one condition."""
        if self.sees("word", "not"):
            return self.negation()
        if self.sees("sign", "("):
            return self.in_brackets()
        if self.skips("word", "every"):
            return Every()
        if self.skips("word", "has"):
            return Has(self.field_name("no name"))
        return self.on_field()

    def negation(self):
        """Read not and its condition."""
        self.enter()
        condition = Negation(self.single())
        self.deep -= 1
        return condition

    def in_brackets(self):
        """Read a filter in brackets."""
        self.enter()
        condition = self.any_of()
        if not self.skips("sign", ")"):
            raise InvalidFilter("no bracket", self.here())
        self.deep -= 1
        return condition

    def enter(self):
        """Go past a not or a bracket, which is open from now on."""
        if self.deep == MOST_OPEN:
            raise InvalidFilter("too deep", self.here())
        self.deep += 1
        self.at += 1

    def on_field(self):
        """Read a comparison or a list."""
        field = self.field_name("no condition")
        if self.sees("word", "in"):
            return OneOf(field, self.values_of(field))
        sign = self.comparison()
        return Compare(field, sign, self.value_of(field))

    def field_name(self, fault):
        """Read the name of a field; the fault is what it is if there is no word."""
        if not self.is_at("word"):
            raise InvalidFilter(fault, self.here())
        name = self.tokens[self.at].value
        if self.schema.kind_of(name) is None:
            raise InvalidFilter("no field", self.here())
        self.at += 1
        return name

    def comparison(self):
        """Read the sign of a comparison."""
        for sign in COMPARISONS:
            if self.skips("sign", sign):
                return sign
        raise InvalidFilter("no comparison", self.here())

    def values_of(self, field):
        """Read in and a list of values."""
        start = self.here()
        self.at += 1
        if not self.skips("sign", "["):
            raise InvalidFilter("no comparison", start)
        found = [self.value_of(field)]
        while self.skips("sign", ","):
            found.append(self.value_of(field))
        if not self.skips("sign", "]"):
            raise InvalidFilter("no end of list", self.here())
        return found

    def value_of(self, field):
        """Read a value of the kind of a field."""
        if self.sees("word", "true"):
            found = True
        elif self.sees("word", "false"):
            found = False
        elif self.is_at("integer") or self.is_at("text"):
            found = self.tokens[self.at].value
        else:
            raise InvalidFilter("no value", self.here())
        if kind_of_value(found) != self.schema.kind_of(field):
            raise InvalidFilter("wrong kind", self.here())
        self.at += 1
        return found

    def here(self):
        """Return the place of the next token in the text, or its end if there is none."""
        if self.at < len(self.tokens):
            return self.tokens[self.at].place
        return self.length

    def is_at(self, kind):
        """Return whether the next token is of a kind."""
        return self.at < len(self.tokens) and self.tokens[self.at].kind == kind

    def sees(self, kind, value):
        """Return whether the next token is of a kind and has a value."""
        return self.is_at(kind) and self.tokens[self.at].value == value

    def skips(self, kind, value):
        """Go past the next token if it is of a kind and has a value; return whether it is so."""
        if not self.sees(kind, value):
            return False
        self.at += 1
        return True
