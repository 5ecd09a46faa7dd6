"""Journals: a list of numbers and entries after it, kept in logs on a disk."""

from surenear.basics.letters import number_in
from surenear.codes.reading import NumberReader
from surenear.codes.writing import list_code, numbers_code
from surenear.disks.blocks import block_of, read_blocks
from surenear.disks.disk import is_done
from surenear.errors import InvalidCode

LOG_WORD = "log "


def log_name(number):
    """Return the name of the log with a number."""
    return f"{LOG_WORD}{number}"


def log_number(name):
    """Return the number of the log with a name, None if no log has this name."""
    if not name.startswith(LOG_WORD):
        return None
    number = number_in(name[len(LOG_WORD):])
    return None if number == 0 else number


def log_block(base, entries):
    """Return the block with which a log begins."""
    return block_of(list_code([numbers_code(numbers) for numbers in [base] + entries]))


def read_log(numbers):
    """Return the base and the entries that a log tells, None if it tells nothing."""
    blocks = read_blocks(numbers)
    if blocks == []:
        return None
    lists = lists_in(blocks[0])
    if lists == []:
        return None
    return (lists[0], lists[1:] + blocks[1:])


def lists_in(numbers):
    """Return the lists whose code numbers are; none if they are no code of lists."""
    reader = NumberReader(numbers)
    try:
        lists = [reader.integers() for _ in range(reader.size())]
        reader.finish()
    except InvalidCode:
        return []
    return lists


class Journal:
    """Asks its disk for one operation after the other, so that what it keeps outlives crashes.

    The stages of the beginning are: "list", "read", "found" (a sync), "make", "made" (a sync) and
    "clean"; later: "up", "given" (a sync) and "turned" (the log before is removed).
    """

    def __init__(self, first):
        # What is kept; each change makes new lists.
        self.base = list(first)
        self.entries = []
        self.stage = "list"
        # The number of its own log.
        self.number = 0
        # The numbers of the logs that were not read yet, the greatest first.
        self.unread = []
        # The names of the logs that are to be removed.
        self.old = []
        # The notes that are not kept yet: pairs of a flag (True for a turn) and numbers.
        self.notes = []
        # How many of them the disk has, but not for sure.
        self.given = 0

    @property
    def up(self):
        """Whether it has begun."""
        return self.stage in ("up", "given", "turned")

    @property
    def waiting(self):
        """The number of notes that are not kept yet."""
        return len(self.notes)

    def add(self, entry):
        """Take an entry that is to be kept."""
        self.notes.append((False, list(entry)))

    def turn(self, base):
        """Take a new base that is to be kept, without entries."""
        self.notes.append((True, list(base)))

    def want(self):
        """Return the operation that the disk is to be asked for, None if there is none."""
        if self.stage == "list":
            return ("names",)
        if self.stage == "read":
            return ("read", log_name(self.unread[0]))
        if self.stage in ("found", "made", "given"):
            return ("sync",)
        if self.stage == "make":
            return ("make", log_name(self.number), log_block(self.base, self.entries))
        if self.stage in ("clean", "turned"):
            return ("remove", self.old[0])
        return self.next_note()

    def next_note(self):
        """Return the operation for the first notes that wait, None if none waits."""
        if self.notes == []:
            return None
        if self.next_turns():
            return ("make", log_name(self.number + 1), log_block(self.notes[0][1], []))
        blocks = [block_of(numbers) for _, numbers in self.next_notes()]
        return ("append", log_name(self.number), [number for block in blocks for number in block])

    def next_turns(self):
        """Return whether the first note that waits is a turn."""
        return self.notes[0][0]

    def next_notes(self):
        """Return the notes that are given to the disk together: a turn, or all entries before the first turn."""
        ends = [at for at, (is_turn, _) in enumerate(self.notes) if is_turn] + [len(self.notes)]
        return self.notes[:max(1, ends[0])]

    def told(self, answer):
        """Take the disk's answer to the operation; return how many notes are kept by it."""
        operation = self.want()
        if operation is None:
            return 0
        # A removal that is refused is not asked for again: the log is gone.
        if operation[0] == "remove":
            self.let_old_go()
            return 0
        if not is_done(operation, answer):
            return 0
        if self.stage == "given":
            return self.kept()
        if self.stage == "list":
            self.listed(answer[1])
        elif self.stage == "read":
            self.read(answer[1])
        elif self.stage == "up":
            self.given = len(self.next_notes())
            self.stage = "given"
        elif self.stage == "found":
            self.stage = "make"
        elif self.stage == "make":
            self.stage = "made"
        else:
            self.stage = "clean" if self.old != [] else "up"
        return 0

    def listed(self, names):
        """Take the names of all files."""
        logs = [name for name in names if log_number(name) is not None]
        numbers = [log_number(name) for name in logs]
        self.number = max(numbers, default=0) + 1
        self.old = logs
        self.unread = sorted(numbers, reverse=True)
        self.stage = "read" if numbers != [] else "found"

    def read(self, numbers):
        """Take the contents of the log that was read."""
        found = read_log(numbers)
        self.unread = self.unread[1:]
        if found is not None:
            self.base, self.entries = found
        if found is not None or self.unread == []:
            self.stage = "found"

    def let_old_go(self):
        """Take note that the first one of the old logs is gone."""
        self.old = self.old[1:]
        if self.old == []:
            self.stage = "up"

    def kept(self):
        """Keep the notes that are on the disk for sure now; return how many they are."""
        many = self.given
        if self.next_turns():
            self.base, self.entries = self.notes[0][1], []
            self.old = [log_name(self.number)]
            self.number += 1
            self.stage = "turned"
        else:
            self.entries = self.entries + [numbers for _, numbers in self.notes[:many]]
            self.stage = "up"
        self.notes = self.notes[many:]
        self.given = 0
        return many
