"""Rows, keys and marks: how the gateway recognizes a record."""

from surenear.basics.values import kind_of_value
from surenear.errors import InvalidKey

MODULUS = 4294967291


def row_of(number, record):
    """Return the numbers that tell all of a record, and the number of its write."""
    row = [number]
    row.extend(string_part(record.name))
    row.append(len(record.vector))
    row.extend(record.vector)
    row.append(len(record.fields))
    for name, worth in record.fields:
        row.extend(string_part(name))
        row.extend(value_part(worth))
    row.append(len(record.words))
    for word, count in record.words:
        row.extend(string_part(word))
        row.append(count)
    return row


def string_part(text):
    """Return the length of a string and the codes of its characters."""
    return [len(text)] + [ord(char) for char in text]


def value_part(worth):
    """Return the numbers that tell a field's value and its kind."""
    kind = kind_of_value(worth)
    if kind == "integer":
        return [0, worth]
    if kind == "text":
        return [1] + string_part(worth)
    return [2, 1 if worth else 0]


def check_key(key):
    """Raise InvalidKey unless both numbers of the key are remainders."""
    for number in key:
        if number < 0 or number >= MODULUS:
            raise InvalidKey("a number of the key is out of its bounds")


def mark_of(key, number, record):
    """Return the mark of a number and a record: one remainder for each number of the key."""
    row = row_of(number, record)
    return tuple([remainder_of(row, factor) for factor in key])


def remainder_of(row, factor):
    """Return what is left of a row by one number of a key."""
    left = 0
    for number in row:
        left = (left * factor + number + 1) % MODULUS
    return left
