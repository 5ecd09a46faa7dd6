"""How values are read from codes."""

from surenear.codes.writing import BOX, CELL, COUNTS, DIFFER, LACKS, NAMES, NORMS, PARTS, RANGE, VALUES
from surenear.errors import InvalidCode
from surenear.facts.contents import Counts, Names, Range, Values
from surenear.facts.vectors import Box, Cell, Differ, Norms, Part, Parts
from surenear.records.record import Record
from surenear.regions.offer import Entry, Offer
from surenear.regions.region import Region

# All characters of strings, in order; between the two lies the percent sign, which is none.
FIRST_CHARS = ' !"#$'
LAST_CHARS = "&'()*+,-./0123456789:;<=>?@ABCDEFGHIJKLMNOPQRSTUVWXYZ[\\]^_`abcdefghijklmnopqrstuvwxyz{|}~"


def read_record(numbers):
    """Return the record whose code a whole list is."""
    reader = NumberReader(numbers)
    record = reader.record()
    reader.finish()
    return record


def read_offer(numbers):
    """Return the offer whose code a whole list is."""
    reader = NumberReader(numbers)
    offer = reader.offer()
    reader.finish()
    return offer


class NumberReader:
    """Reads values from the front of a list of numbers, one after the other."""

    def __init__(self, numbers):
        self.numbers = tuple(numbers)
        # The place of the next number.
        self.at = 0

    def take(self):
        """Return the next number."""
        if self.at == len(self.numbers):
            raise InvalidCode("the numbers end too early")
        self.at += 1
        return self.numbers[self.at - 1]

    def size(self):
        """Return the next number, which tells a size."""
        number = self.take()
        if number < 0:
            raise InvalidCode("a size is less than 0")
        return number

    def choice(self, many):
        """Return the next number, which is from 0 on and less than many."""
        number = self.take()
        if not 0 <= number < many:
            raise InvalidCode("a number is none of those that stand for something")
        return number

    def present(self):
        """Return whether a value that may be missing follows."""
        return self.choice(2) == 1

    def finish(self):
        """Raise InvalidCode if numbers are left over."""
        if self.at < len(self.numbers):
            raise InvalidCode("numbers are left over")

    def integers(self):
        """Read a list of integers."""
        return [self.take() for _ in range(self.size())]

    def string(self):
        """Read a string."""
        return "".join([char_of(number) for number in self.integers()])

    def value(self):
        """Read a value of a field."""
        kind = self.choice(3)
        if kind == 0:
            return self.take()
        if kind == 1:
            return self.string()
        return self.choice(2) == 1

    def record(self):
        """Read a record."""
        name = self.string()
        vector = self.integers()
        fields = [(self.string(), self.value()) for _ in range(self.size())]
        return Record(name, vector, fields=fields, words=self.counts())

    def counts(self):
        """Read a list of words with their counts."""
        return [(self.string(), self.take()) for _ in range(self.size())]

    def fact(self):
        """Read a fact."""
        number = self.take()
        if number == PARTS:
            return Parts([self.part() for _ in range(self.size())])
        if number == CELL:
            return Cell(self.integers(), self.integers())
        if number == BOX:
            return Box(self.integers(), self.integers())
        if number == NORMS:
            return Norms(self.take(), self.take())
        if number == DIFFER:
            return Differ(self.integers(), self.take())
        if number == RANGE:
            return Range(self.string(), self.take(), self.take(), lack=self.lack_told())
        if number == VALUES:
            return Values(self.string(), self.choices_told(), lack=self.lack_told())
        if number == COUNTS:
            return Counts(self.counts())
        if number == NAMES:
            return Names(self.string(), self.string())
        raise InvalidCode("there is no such class of facts")

    def part(self):
        """Read a part of a fact Parts."""
        return Part(self.take(), self.integers(), self.take())

    def choices_told(self):
        """Read the choices of a fact Values."""
        return [self.value() for _ in range(self.size())]

    def lack_told(self):
        """Read a lack."""
        return LACKS[self.choice(len(LACKS))]

    def region(self):
        """Read a region."""
        parent = self.take() if self.present() else None
        return Region(parent, [self.fact() for _ in range(self.size())])

    def partition(self):
        """Read a partition."""
        return [self.region() for _ in range(self.size())]

    def entry(self):
        """Read an entry of an offer."""
        return Entry(self.take(), self.record(), self.integers())

    def offer(self):
        """Read an offer."""
        partitions = [self.partition() for _ in range(self.size())]
        return Offer(partitions, [self.entry() for _ in range(self.size())])


def char_of(number):
    """Return the character that a number stands for in strings."""
    if 0 <= number - ord(" ") < len(FIRST_CHARS):
        return FIRST_CHARS[number - ord(" ")]
    if 0 <= number - ord("&") < len(LAST_CHARS):
        return LAST_CHARS[number - ord("&")]
    raise InvalidCode("this is no character of strings")
