"""All errors that the program raises by itself."""


class SurenearError(ValueError):
    """The base class of all errors."""


class InvalidSchema(SurenearError):
    """A schema that is invalid."""


class InvalidRecord(SurenearError):
    """A record that is not of its schema."""


class InvalidKey(SurenearError):
    """A key with a number out of its bounds."""


class InvalidFilter(SurenearError):
    """A text that is no filter: what is wrong, and where."""

    def __init__(self, fault, place):
        super().__init__(f"{fault} at {place}")
        self.fault = fault
        self.place = place


class InvalidQuery(SurenearError):
    """A query that is invalid for its schema."""


class InvalidRule(SurenearError):
    """A rule with a number that is too small."""


class InvalidCode(SurenearError):
    """A list of integers that stands for no value."""


class InvalidOperation(SurenearError):
    """An operation that no disk knows."""


class InvalidSource(SurenearError):
    """A source that cannot be searched."""


class NoSuchMoment(SurenearError):
    """A moment that is not kept."""


class NotPinned(SurenearError):
    """A moment without a pin."""


class NoSuchQuery(SurenearError):
    """A query that is not under way."""


class NotNow(SurenearError):
    """Something that is not possible at this time."""


class NotUp(SurenearError):
    """A gateway that is not up."""
