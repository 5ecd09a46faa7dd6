"""The values of fields: integers, texts and flags, which are never equal to each other."""


def kind_of_value(worth):
    """Return the kind of a value."""
    # A flag counts as an integer in Python, so it is asked for first.
    if isinstance(worth, bool):
        return "flag"
    if isinstance(worth, int):
        return "integer"
    return "text"


def same_value(one, other):
    """Return whether two values are equal and of the same kind."""
    return kind_of_value(one) == kind_of_value(other) and one == other


def same_values(ones, others):
    """Return whether two tuples hold the same values at the same places."""
    kinds = [kind_of_value(worth) for worth in ones]
    return kinds == [kind_of_value(worth) for worth in others] and ones == others


def is_among(worth, choices):
    """Return whether a value is one of the choices."""
    return any([same_value(worth, choice) for choice in choices])


def satisfies(worth, sign, other):
    """Return whether a comparison of two values holds."""
    if kind_of_value(worth) != kind_of_value(other):
        return sign == "!="
    if sign == "=":
        return worth == other
    if sign == "!=":
        return worth != other
    if sign == "<":
        return worth < other
    if sign == "<=":
        return worth <= other
    if sign == ">":
        return worth > other
    return worth >= other
