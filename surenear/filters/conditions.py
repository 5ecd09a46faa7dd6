"""Conditions: what records pass, and how filters are written."""

from surenear.basics.values import is_among, kind_of_value, same_value, same_values, satisfies


class Condition:
    """The base class of all conditions."""

    def __and__(self, other):
        return Both(self, other)

    def __or__(self, other):
        return Either(self, other)

    def __invert__(self):
        return Negation(self)

    def __eq__(self, other):
        # Classes with fields compare them, too, in an __eq__ of their own.
        return isinstance(other, Condition) and self.__class__.__name__ == other.__class__.__name__

    def __str__(self):
        return "".join(pieces_of(self))


class Every(Condition):
    """What all records pass."""

    def passes(self, record):
        """Return True: every record passes."""
        return True


class Has(Condition):
    """What records with a field pass."""

    def __init__(self, field):
        self.field = field

    def passes(self, record):
        """Return whether a record has the field."""
        return record.value(self.field) is not None

    def __eq__(self, other):
        return isinstance(other, Has) and self.field == other.field


class Compare(Condition):
    """What records pass whose value of a field satisfies a comparison."""

    def __init__(self, field, sign, value):
        self.field = field
        self.sign = sign
        self.value = value

    def passes(self, record):
        """Return whether a record has the field, and its value satisfies the comparison."""
        worth = record.value(self.field)
        return worth is not None and satisfies(worth, self.sign, self.value)

    def __eq__(self, other):
        return (
            isinstance(other, Compare)
            and self.field == other.field
            and self.sign == other.sign
            and same_value(self.value, other.value)
        )


class OneOf(Condition):
    """What records pass whose value of a field is one of some values."""

    def __init__(self, field, choices):
        self.field = field
        self.choices = tuple(choices)

    def passes(self, record):
        """Return whether a record has the field, and its value is one of the choices."""
        worth = record.value(self.field)
        return worth is not None and is_among(worth, self.choices)

    def __eq__(self, other):
        return (
            isinstance(other, OneOf)
            and self.field == other.field
            and same_values(self.choices, other.choices)
        )


class Both(Condition):
    """What records pass that pass a and b."""

    def __init__(self, a, b):
        self.a = a
        self.b = b

    def passes(self, record):
        """Return whether a record passes both conditions."""
        return self.a.passes(record) and self.b.passes(record)

    def __eq__(self, other):
        return isinstance(other, Both) and self.a == other.a and self.b == other.b


class Either(Condition):
    """What records pass that pass a or b."""

    def __init__(self, a, b):
        self.a = a
        self.b = b

    def passes(self, record):
        """Return whether a record passes one of the conditions, or both."""
        return self.a.passes(record) or self.b.passes(record)

    def __eq__(self, other):
        return isinstance(other, Either) and self.a == other.a and self.b == other.b


class Negation(Condition):
    """What records pass that do not pass a."""

    def __init__(self, a):
        self.a = a

    def passes(self, record):
        """Return whether a record does not pass the condition."""
        return not self.a.passes(record)

    def __eq__(self, other):
        return isinstance(other, Negation) and self.a == other.a


def pieces_of(condition):
    """Return the strings that the text of a condition consists of."""
    pieces = []
    # A list of what is still to be written, the next one last, and no recursion:
    # a filter may have 200 conditions, each one inside the next one.
    waiting = [condition]
    while waiting:
        piece = waiting.pop()
        if isinstance(piece, str):
            pieces.append(piece)
        else:
            for part in reversed(parts_of(piece)):
                waiting.append(part)
    return pieces


def parts_of(condition):
    """Return the list of the strings and the conditions that a condition consists of."""
    if isinstance(condition, Both):
        return bracketed(condition.a) + [" and "] + bracketed(condition.b)
    if isinstance(condition, Either):
        return bracketed(condition.a) + [" or "] + bracketed(condition.b)
    if isinstance(condition, Negation):
        return ["not "] + bracketed(condition.a)
    if isinstance(condition, Has):
        return [f"has {condition.field}"]
    if isinstance(condition, Compare):
        return [f"{condition.field} {condition.sign} {text_of_value(condition.value)}"]
    if isinstance(condition, OneOf):
        values = ", ".join([text_of_value(worth) for worth in condition.choices])
        return [f"{condition.field} in [{values}]"]
    return ["every"]


def bracketed(condition):
    """Return a condition as a part of another one: in brackets if it is an and or an or."""
    if isinstance(condition, (Both, Either)):
        return ["(", condition, ")"]
    return [condition]


def text_of_value(worth):
    """Return how a value is written in a filter."""
    kind = kind_of_value(worth)
    if kind == "flag":
        return "true" if worth else "false"
    if kind == "integer":
        return str(worth)
    quoted = worth.replace("\\", "\\\\").replace('"', '\\"')
    return f'"{quoted}"'
