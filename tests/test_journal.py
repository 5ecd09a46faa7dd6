"""Points [72] to [74]: logs, and journals that outlive crashes."""

import itertools
import random
import unittest

from surenear.codes.writing import list_code, numbers_code
from surenear.disks.blocks import block_of
from surenear.disks.disk import Disk
from surenear.disks.journal import Journal, log_name, log_number, read_log

DONE = ("done",)
REFUSED = ("refused",)


def head(*lists):
    """The first block of a log: a base and entries."""
    return block_of(list_code([numbers_code(told) for told in lists]))


def blocks(*lists):
    return [number for told in lists for number in block_of(told)]


def disk_with(**files):
    """A disk with these files, for sure; an underscore in a name stands for a blank."""
    disk = Disk()
    for name, numbers in files.items():
        disk.ask(("make", name.replace("_", " "), numbers))
    disk.ask(("sync",))
    return disk


def step(journal, disk):
    """One operation; returns it and how many notes are kept by it."""
    operation = journal.want()
    return operation, journal.told(disk.ask(operation))


def settle(journal, disk):
    """All operations that are wanted, by their first words and names, and the number of notes that were kept."""
    told, kept = [], 0
    while journal.want() is not None:
        operation, more = step(journal, disk)
        told.append(" ".join(operation[:2]))
        kept += more
    return told, kept


def begun(disk, first=(7,)):
    journal = Journal(first)
    settle(journal, disk)
    return journal


class NameTest(unittest.TestCase):
    def test_names(self):
        for number, name in ((1, "log 1"), (10, "log 10"), (123456789012345678901, "log 123456789012345678901")):
            self.assertEqual(log_name(number), name)
            self.assertEqual(log_number(name), number)

    def test_other_names(self):
        for name in ("", "log", "log ", "log 0", "log 01", "log 1 ", " log 1", "log  1", "log -1", "log +1", "log 1.0", "log x", "Log 1",
                     "log 1 2", "log 1x", "start 1", "1", "lo 1", "log1", "segment 1 2", "log 1\\", "log 00"):
            self.assertIsNone(log_number(name), name)


class ReadLogTest(unittest.TestCase):
    def test_a_log(self):
        self.assertEqual(read_log(head([1, 2])), ([1, 2], []))
        self.assertEqual(read_log(head([])), ([], []))
        self.assertEqual(read_log(head([1], [2, 3], [])), ([1], [[2, 3], []]))
        self.assertEqual(read_log(head([1], [2]) + blocks([3], [], [4, 5])), ([1], [[2], [3], [], [4, 5]]))
        self.assertEqual(read_log(tuple(head([1]) + blocks([3]))), ([1], [[3]]))

    def test_up_to_the_first_place_where_no_block_begins(self):
        for rest in ([1], [0, 5], [-1, 0], [2, 0, 1]):
            self.assertEqual(read_log(head([1]) + blocks([3]) + rest + blocks([4])), ([1], [[3]]))

    def test_nothing(self):
        for numbers in ([], [0], [5, 5, 5], [-1, 0], block_of([]), block_of([0]), block_of([-1]), block_of([1]), block_of([1, 2, 3]),
                        block_of([1, -1]), block_of([1, 0, 0]), block_of([2, 0]), blocks([0], [1, 0]), block_of([1, 1, 5, 5]),
                        head([1])[:-1]):
            self.assertIsNone(read_log(numbers), numbers)

    def test_the_numbers_are_not_changed(self):
        numbers = head([1], [2])
        base, entries = read_log(numbers)
        base.append(5)
        entries.clear()
        self.assertEqual(numbers, head([1], [2]))


class BeginTest(unittest.TestCase):
    def steps(self, disk, first=(7,)):
        """The operations of the beginning, the journal, and that it is up only at the end."""
        journal, told = Journal(first), []
        while not journal.up:
            self.assertIs(journal.up, False)
            operation, kept = step(journal, disk)
            self.assertEqual(kept, 0)
            told.append(operation)
        self.assertIsNone(journal.want())
        self.assertIs(journal.up, True)
        return told, journal

    def test_an_empty_disk(self):
        disk = Disk()
        told, journal = self.steps(disk, [7, 8])
        self.assertEqual(told, [("names",), ("sync",), ("make", "log 1", head([7, 8])), ("sync",)])
        self.assertEqual((journal.base, journal.entries, journal.waiting), ([7, 8], [], 0))
        self.assertEqual(disk.files(), [("log 1", head([7, 8]), head([7, 8]))])

    def test_one_log(self):
        disk = disk_with(log_3=head([1], [2]) + blocks([3]))
        told, journal = self.steps(disk)
        new = head([1], [2], [3])
        self.assertEqual(told, [("names",), ("read", "log 3"), ("sync",), ("make", "log 4", new), ("sync",), ("remove", "log 3")])
        self.assertEqual((journal.base, journal.entries), ([1], [[2], [3]]))
        self.assertEqual(disk.ask(("names",)), ("names", ["log 4"]))

    def test_the_greatest_first_until_one_tells_something(self):
        disk = disk_with(log_2=head([2]), log_10=[5], log_9=head([9], [1]), start_3=[0, 0], log_01=head([0]))
        told, journal = self.steps(disk)
        self.assertEqual([operation[:2] for operation in told], [
            ("names",), ("read", "log 10"), ("read", "log 9"), ("sync",), ("make", "log 11"), ("sync",),
            ("remove", "log 2"), ("remove", "log 10"), ("remove", "log 9"),
        ])
        self.assertEqual((journal.base, journal.entries), ([9], [[1]]))
        self.assertEqual(disk.ask(("names",)), ("names", ["start 3", "log 01", "log 11"]))

    def test_logs_that_tell_nothing(self):
        disk = disk_with(log_1=[], log_2=head([2])[:-1], log_4=[3, 3])
        told, journal = self.steps(disk, [7])
        self.assertEqual([" ".join(operation[:2]) for operation in told], [
            "names", "read log 4", "read log 2", "read log 1", "sync", "make log 5", "sync", "remove log 1", "remove log 2", "remove log 4",
        ])
        self.assertEqual(told[5][2], head([7]))
        self.assertEqual((journal.base, journal.entries), ([7], []))

    def test_fields_while_it_begins(self):
        first = [7]
        journal, disk = Journal(first), disk_with(log_1=head([1], [2]))
        first.append(8)
        self.assertEqual((journal.base, journal.entries, journal.up, journal.waiting), ([7], [], False, 0))
        step(journal, disk)
        self.assertEqual((journal.base, journal.entries), ([7], []))
        step(journal, disk)
        self.assertEqual((journal.base, journal.entries), ([1], [[2]]))

    def test_refused(self):
        """What is refused is asked for again, but a removal is not."""
        disk, journal = disk_with(log_1=head([1]), log_2=[4]), Journal([7])
        for word in ("names", "read", "read", "sync", "make", "sync"):
            operation = journal.want()
            self.assertEqual(operation[0], word)
            self.assertEqual(journal.told(REFUSED), 0)
            self.assertEqual(journal.want(), operation)
            journal.told(disk.ask(operation))
        self.assertEqual(journal.want(), ("remove", "log 1"))
        journal.told(REFUSED)
        self.assertEqual(journal.want(), ("remove", "log 2"))
        self.assertFalse(journal.up)
        journal.told(REFUSED)
        self.assertIsNone(journal.want())
        self.assertTrue(journal.up)

    def test_answers_of_another_kind(self):
        disk, journal = disk_with(log_1=head([1])), Journal([7])
        wrong = {
            "names": [DONE, ("numbers", [1])], "read": [DONE, ("names", ["log 9"])],
            "sync": [("names", []), ("numbers", head([5]))], "make": [("names", []), ("numbers", [])],
        }
        while not journal.up:
            operation = journal.want()
            for answer in wrong.get(operation[0], []):
                self.assertEqual(journal.told(answer), 0)
                self.assertEqual(journal.want(), operation)
            journal.told(disk.ask(operation))
        self.assertEqual(journal.base, [1])
        # Nothing is wanted now.
        for answer in (DONE, REFUSED, ("names", ["log 5"]), ("numbers", head([5]))):
            self.assertEqual(journal.told(answer), 0)
            self.assertIsNone(journal.want())
        self.assertEqual((journal.base, journal.entries), ([1], []))

    def test_a_removal_answered_in_another_way_is_not_asked_for_again(self):
        disk, journal = disk_with(log_1=head([1])), Journal([7])
        while journal.want()[0] != "remove":
            step(journal, disk)
        journal.told(("numbers", [1]))
        self.assertTrue(journal.up)

    def test_notes_that_are_given_while_it_begins(self):
        disk, journal = disk_with(log_1=head([1], [2])), Journal([7])
        journal.add([3])
        while not journal.up:
            self.assertEqual(step(journal, disk)[1], 0)
            self.assertEqual(journal.waiting, 1)
        self.assertEqual(journal.entries, [[2]])
        self.assertEqual(journal.want(), ("append", "log 2", block_of([3])))
        self.assertEqual(settle(journal, disk), (["append log 2", "sync"], 1))
        self.assertEqual((journal.entries, journal.waiting), ([[2], [3]], 0))


class NoteTest(unittest.TestCase):
    def setUp(self):
        self.disk = Disk()
        self.journal = begun(self.disk)

    def test_an_entry(self):
        self.journal.add([1, 2])
        self.assertEqual((self.journal.waiting, self.journal.entries), (1, []))
        self.assertEqual(self.journal.want(), ("append", "log 1", block_of([1, 2])))
        self.assertEqual(step(self.journal, self.disk)[1], 0)
        # It is not kept before the sync.
        self.assertEqual((self.journal.waiting, self.journal.entries, self.journal.want()), (1, [], ("sync",)))
        self.assertTrue(self.journal.up)
        self.assertEqual(step(self.journal, self.disk)[1], 1)
        self.assertEqual((self.journal.waiting, self.journal.entries, self.journal.want()), (0, [[1, 2]], None))
        self.assertEqual(read_log(self.disk.ask(("read", "log 1"))[1]), ([7], [[1, 2]]))

    def test_several_entries_in_one_operation(self):
        for entry in ([1], [], [2, 3]):
            self.journal.add(entry)
        self.assertEqual(self.journal.want(), ("append", "log 1", blocks([1], [], [2, 3])))
        self.assertEqual(settle(self.journal, self.disk), (["append log 1", "sync"], 3))
        self.assertEqual(self.journal.entries, [[1], [], [2, 3]])

    def test_entries_up_to_the_first_turn(self):
        for entry in ([1], [2]):
            self.journal.add(entry)
        self.journal.turn([8, 8])
        self.journal.add([3])
        self.journal.turn([9])
        self.journal.turn([10])
        self.journal.add([4])
        self.journal.add([5])
        told, kept = settle(self.journal, self.disk)
        self.assertEqual(told, [
            "append log 1", "sync", "make log 2", "sync", "remove log 1", "append log 2", "sync",
            "make log 3", "sync", "remove log 2", "make log 4", "sync", "remove log 3", "append log 4", "sync",
        ])
        self.assertEqual((kept, self.journal.base, self.journal.entries), (8, [10], [[4], [5]]))

    def test_a_turn(self):
        self.journal.add([1])
        settle(self.journal, self.disk)
        self.journal.turn([8, 9])
        self.assertEqual(self.journal.want(), ("make", "log 2", head([8, 9])))
        self.assertEqual(step(self.journal, self.disk)[1], 0)
        self.assertEqual((self.journal.base, self.journal.entries, self.journal.waiting), ([7], [[1]], 1))
        self.assertEqual(step(self.journal, self.disk), (("sync",), 1))
        self.assertEqual((self.journal.base, self.journal.entries, self.journal.waiting), ([8, 9], [], 0))
        # It is up while the log before is removed, and other notes wait so long.
        self.assertTrue(self.journal.up)
        self.journal.add([2])
        self.assertEqual(step(self.journal, self.disk), (("remove", "log 1"), 0))
        self.assertEqual(self.journal.want(), ("append", "log 2", block_of([2])))
        settle(self.journal, self.disk)
        self.assertEqual(read_log(self.disk.ask(("read", "log 2"))[1]), ([8, 9], [[2]]))
        self.assertEqual(self.disk.ask(("names",)), ("names", ["log 2"]))

    def test_a_turn_before_any_entry(self):
        self.journal.turn([8])
        self.assertEqual(settle(self.journal, self.disk), (["make log 2", "sync", "remove log 1"], 1))
        self.assertEqual((self.journal.base, self.journal.entries), ([8], []))

    def test_refused(self):
        self.journal.add([1])
        for word in ("append", "sync"):
            operation = self.journal.want()
            self.assertEqual(operation[0], word)
            self.assertEqual(self.journal.told(REFUSED), 0)
            self.assertEqual(self.journal.told(("names", [])), 0)
            self.assertEqual((self.journal.want(), self.journal.waiting), (operation, 1))
            self.journal.told(self.disk.ask(operation))
        self.journal.turn([8])
        for word in ("make", "sync"):
            operation = self.journal.want()
            self.assertEqual(operation[0], word)
            self.assertEqual(self.journal.told(REFUSED), 0)
            self.assertEqual((self.journal.want(), self.journal.waiting), (operation, 1))
            self.journal.told(self.disk.ask(operation))
        self.assertEqual(self.journal.want(), ("remove", "log 1"))
        self.assertEqual(self.journal.told(REFUSED), 0)
        self.assertIsNone(self.journal.want())

    def test_notes_between_an_operation_and_its_sync(self):
        self.journal.add([1])
        step(self.journal, self.disk)
        self.journal.add([2])
        self.journal.turn([8])
        self.assertEqual(step(self.journal, self.disk), (("sync",), 1))
        self.assertEqual((self.journal.entries, self.journal.waiting), ([[1]], 2))
        self.assertEqual(self.journal.want(), ("append", "log 1", block_of([2])))
        step(self.journal, self.disk)
        self.assertEqual(step(self.journal, self.disk), (("sync",), 1))
        self.assertEqual(step(self.journal, self.disk)[0], ("make", "log 2", head([8])))
        self.journal.add([3])
        self.assertEqual(step(self.journal, self.disk), (("sync",), 1))
        self.assertEqual((self.journal.base, self.journal.entries, self.journal.waiting), ([8], [], 1))

    def test_want_changes_nothing(self):
        self.journal.add([1])
        self.journal.want()
        self.journal.add([2])
        self.assertEqual(self.journal.want(), ("append", "log 1", blocks([1], [2])))
        self.journal.want()[2].append(5)
        self.assertEqual(self.journal.want(), ("append", "log 1", blocks([1], [2])))

    def test_copies(self):
        entry, base = [1], [8]
        self.journal.add(entry)
        entry.append(2)
        settle(self.journal, self.disk)
        self.assertEqual(self.journal.entries, [[1]])
        before = self.journal.entries
        self.journal.add((3,))
        self.journal.turn(base)
        base.append(9)
        settle(self.journal, self.disk)
        # Each change makes new lists.
        self.assertEqual((before, self.journal.base, self.journal.entries), ([[1]], [8], []))
        self.assertEqual([type(told) for told in (self.journal.base, self.journal.entries)], [list, list])
        self.journal.add((3,))
        settle(self.journal, self.disk)
        self.assertIs(type(self.journal.entries[0]), list)


class CrashTest(unittest.TestCase):
    """After a crash a journal finds all that was kept, and of the rest only first parts."""

    def give(self, journal, notes):
        for is_turn, numbers in notes:
            if is_turn:
                journal.turn(numbers)
            else:
                journal.add(numbers)

    def states(self, notes):
        """What is told after none, one, two .. of the notes."""
        told = [([7], [])]
        for is_turn, numbers in notes:
            base, entries = told[-1]
            told.append((numbers, []) if is_turn else (base, entries + [numbers]))
        return told

    def cuts(self, disk):
        """Cuts of every state and every size, for all files together."""
        names = [name for name, _, _ in disk.files()]
        longest = max([len(seen or []) for _, _, seen in disk.files()] + [0])
        for state, size in itertools.product(range(-1, 5), range(-1, longest + 2)):
            yield [(name, state, size) for name in names]

    def test_every_cut_at_every_operation(self):
        notes = [(False, [1]), (False, [2, 2]), (True, [8]), (False, [3]), (True, [9])]
        states = self.states(notes)
        for stop, done in itertools.product(range(13), (False, True)):
            for at in itertools.count():
                disk = Disk()
                journal = begun(disk)
                self.give(journal, notes)
                kept = sum(step(journal, disk)[1] for _ in range(stop) if journal.want() is not None)
                if done and journal.want() is not None:
                    disk.ask(journal.want())
                cuts = list(self.cuts(disk))
                if at == len(cuts):
                    break
                disk.crash(cuts[at])
                found = begun(disk, [7])
                self.assertIn((found.base, found.entries), states[kept:], (stop, done, cuts[at]))

    def test_many(self):
        rng = random.Random(72)
        for _ in range(150):
            disk, states, least = Disk(), [([7], [])], 0
            for _ in range(5):
                journal = Journal([7])
                for _ in range(rng.randint(0, 25)):
                    if journal.want() is None or rng.random() < 0.2:
                        if journal.up:
                            note = (rng.random() < 0.3, [rng.randint(0, 9) for _ in range(rng.randint(0, 3))])
                            self.give(journal, [note])
                            base, entries = states[-1]
                            states.append((note[1], []) if note[0] else (base, entries + [note[1]]))
                    else:
                        before = journal.up
                        least += journal.told(REFUSED) if rng.random() < 0.1 else step(journal, disk)[1]
                        if journal.up and not before:
                            # What was found is what is kept from now on.
                            found = (journal.base, journal.entries)
                            self.assertIn(found, states[least:])
                            states, least = [found], 0
                if journal.want() is not None and rng.random() < 0.5:
                    disk.ask(journal.want())
                if journal.up:
                    self.assertEqual((journal.base, journal.entries), states[least])
                disk.crash([(name, rng.randint(-1, 3), rng.randint(0, 20)) for name, _, _ in disk.files()])


if __name__ == "__main__":
    unittest.main()
