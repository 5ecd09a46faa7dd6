"""Points [75] to [84]: what a store does with its disk, and what it says."""

import random
import unittest

from surenear.building.build import build_offer
from surenear.building.rules import Blocks, SortedBlocks
from surenear.codes.writing import offer_code
from surenear.costs.query import Query
from surenear.costs.question import Question
from surenear.disks.blocks import block_of
from surenear.disks.disk import Disk
from surenear.errors import NotNow
from surenear.records.record import Record
from surenear.records.schema import Schema
from surenear.search.report import ReportPart
from surenear.search.search import Search, Source
from surenear.stores.store import Store

SCHEMA = Schema(1, fields=[("i", "integer")])
RULES = (Blocks(2), SortedBlocks("i", 3))
KINDS = ("box", "names")
DONE = ("done",)
REFUSED = ("refused",)


def record(number):
    return Record(f"r{number}", [number], fields=[("i", -number)])


def offer_with(*numbers, rules=RULES, kinds=KINDS):
    return build_offer(SCHEMA, list(rules), list(kinds), [(number, record(number)) for number in numbers])


def file_of(*numbers, **more):
    return block_of(offer_code(offer_with(*numbers, **more)))


def sealed(name, *numbers, **more):
    offer = offer_with(*numbers, **more)
    return ("sealed", name, (len(numbers) + 3) // 4, offer.partitions)


class Machine:
    """A store and its disk."""

    def __init__(self, files=(), *, begun=True, **more):
        self.disk = Disk()
        for name, numbers in files:
            self.disk.ask(("make", name, numbers))
        self.disk.ask(("sync",))
        self.store = Store(SCHEMA, list(RULES), **{"kinds": list(KINDS)} | more)
        if begun:
            self.settle()

    def step(self):
        """One operation; returns its first words, and what is said."""
        operation = self.store.want()
        return " ".join(operation[:2]), self.store.told(self.disk.ask(operation))

    def settle(self):
        """All operations that are wanted; returns their first words, and all that is said."""
        words, said = [], []
        while self.store.want() is not None:
            word, more = self.step()
            words.append(word)
            said += more
        return words, said

    def records(self, *numbers):
        for number in numbers:
            self.hear("record", number, record(number))

    def hear(self, *message):
        return self.store.hear(message)

    def segment(self, *numbers):
        """Seals these records; returns the name."""
        self.records(*numbers)
        self.store.seal()
        name = self.store.status()["making"]
        self.settle()
        return name

    def status(self, *keys):
        status = self.store.status()
        return status[keys[0]] if len(keys) == 1 else tuple(status[key] for key in keys)

    def files(self):
        return self.disk.ask(("names",))[1]


class BeginTest(unittest.TestCase):
    def test_an_empty_disk(self):
        machine = Machine(begun=False)
        self.assertEqual(machine.store.status(), {
            "stage": "list", "start": 0, "memory": [], "held": [], "owners": [], "making": None, "removing": [], "merging": [],
        })
        told = []
        while not machine.store.ready:
            self.assertIs(machine.store.ready, False)
            told.append((machine.status("stage"), machine.store.want()))
            self.assertEqual(machine.step()[1], [])
        self.assertEqual(told, [("list", ("names",)), ("start", ("make", "start 1", [0, 0])), ("settle", ("sync",))])
        self.assertEqual((machine.status("stage", "start"), machine.store.want()), (("up", 1), None))
        self.assertIs(machine.store.ready, True)
        self.assertEqual(machine.disk.files(), [("start 1", [0, 0], [0, 0])])

    def test_the_start(self):
        for names, start in (((), 1), (("start 1",), 2), (("start 4", "start 2"), 5), (("segment 7 0", "start 3"), 8),
                             (("segment 2 9", "start 5"), 6), (("segment 1 9",), 2), (("log 8", "start 09", "x 3", "start 1"), 2)):
            machine = Machine([(name, [0, 0]) for name in names], begun=False)
            self.assertEqual(machine.status("start"), 0)
            machine.step()
            self.assertEqual(machine.status("start"), start)

    def test_files(self):
        files = [("start 2", [0, 0]), ("segment 2 1", file_of(1, 2)), ("log 1", [5]), ("segment 1 0", [3, 3]), ("start 1", [0, 0]),
                 ("segment 2 0", file_of(3))]
        machine = Machine(files, begun=False)
        told = []
        while not machine.store.ready:
            told.append((machine.status("stage", "held", "removing"), " ".join(machine.store.want()[:2])))
            _, said = machine.step()
        starts = ["start 2", "start 1"]
        self.assertEqual(told, [
            (("list", [], []), "names"), (("read", [], starts), "read segment 2 1"), (("read", [(2, 1)], starts), "read segment 1 0"),
            (("read", [(2, 1)], starts + ["segment 1 0"]), "read segment 2 0"),
            (("start", [(2, 1), (2, 0)], starts + ["segment 1 0"]), "make start 3"),
            (("settle", [(2, 1), (2, 0)], starts + ["segment 1 0"]), "sync"),
        ])
        self.assertEqual(said, [sealed((2, 1), 1, 2)])
        self.assertEqual(machine.settle(), (["remove start 2", "remove start 1", "remove segment 1 0", "sync"], [("gone", (1, 0))]))
        self.assertEqual(machine.files(), ["segment 2 1", "log 1", "segment 2 0", "start 3"])
        self.assertEqual(machine.status("held", "owners", "removing", "stage"), ([(2, 1), (2, 0)], [], [], "up"))

    def test_what_is_no_segment(self):
        good = file_of(1, 2)
        wrong = [[], [0, 0], good[:-1], good + [0, 0], good + good, [good[0], good[1] + 1] + good[2:], block_of([1]), offer_code(offer_with(1))]
        machine = Machine([(f"segment 1 {at}", numbers) for at, numbers in enumerate(wrong + [good])], begun=False)
        machine.step()
        for _ in wrong + [good]:
            machine.step()
        self.assertEqual(machine.status("held"), [(1, len(wrong))])
        self.assertEqual(machine.status("removing"), [f"segment 1 {at}" for at in range(len(wrong))])

    def test_refused(self):
        machine = Machine([("segment 1 0", file_of(1)), ("start 1", [0, 0])], begun=False)
        for word in ("names", "read", "make", "sync", "remove", "sync"):
            operation = machine.store.want()
            self.assertEqual(operation[0], word)
            before = machine.store.status()
            wrong = [REFUSED, ("names", []) if word != "names" else DONE, ("numbers", []) if word != "read" else DONE]
            for answer in wrong:
                self.assertEqual(machine.store.told(answer), [])
                self.assertEqual((machine.store.want(), machine.store.status()), (operation, before))
            machine.step()
        # Nothing is wanted now.
        before = machine.store.status()
        for answer in (DONE, REFUSED, ("names", ["start 9"]), ("numbers", [])):
            self.assertEqual(machine.store.told(answer), [])
            self.assertEqual((machine.store.want(), machine.store.status()), (None, before))

    def test_crash(self):
        machine = Machine(most=2)
        name = machine.segment(1, 2)
        machine.hear("owner", name, 5)
        machine.hear("dead", 1, 9)
        machine.records(3)
        machine.store.merge([name])
        self.assertIsNone(machine.store.crash())
        self.assertEqual(machine.store.status(), {
            "stage": "list", "start": 0, "memory": [], "held": [], "owners": [], "making": None, "removing": [], "merging": [],
        })
        self.assertFalse(machine.store.ready)
        words, said = machine.settle()
        self.assertEqual(words, ["names", "read segment 1 0", "make start 2", "sync", "remove start 1", "sync"])
        self.assertEqual(said, [sealed(name, 1, 2)])
        self.assertEqual(machine.status("held", "owners", "start", "memory"), ([name], [], 2, []))
        self.assertEqual(machine.segment(3), (2, 0))
        # The death was forgotten: the record is reported again.
        machine.hear("owner", name, 5)
        query = Query([0], most=9)
        self.assertEqual(machine.hear("ask", 1, 9, query, 9)[0][2][0].numbers, (1, 2))

    def test_a_crash_while_it_begins(self):
        machine = Machine([("segment 1 0", file_of(1)), ("start 1", [0, 0])], begun=False)
        for steps in range(6):
            for _ in range(steps):
                machine.step()
            machine.store.crash()
            self.assertEqual(machine.store.want(), ("names",))
            self.assertEqual(machine.status("held", "removing"), ([], []))
        machine.settle()
        self.assertEqual(machine.status("held"), [(1, 0)])

    def test_arguments_are_not_kept(self):
        rules, kinds = list(RULES), list(KINDS)
        store = Store(SCHEMA, rules, kinds=kinds)
        rules.clear()
        kinds.clear()
        disk = Disk()
        while store.want() is not None:
            store.told(disk.ask(store.want()))
        store.hear(("record", 1, record(1)))
        store.seal()
        self.assertEqual(store.want(), ("make", "segment 1 0", file_of(1)))


class MemoryTest(unittest.TestCase):
    def test_records_wait_in_order(self):
        machine = Machine()
        for number in (5, 2, 9, 2, 5):
            self.assertEqual(machine.hear("record", number, record(number)), [])
        self.assertEqual(machine.status("memory"), [5, 2, 9])
        machine.store.status()["memory"].clear()
        self.assertEqual(machine.status("memory"), [5, 2, 9])

    def test_records_that_are_not_taken(self):
        machine = Machine(most=2)
        machine.records(1, 2, 3)
        machine.store.seal()
        # In the segment that is being made, before and after its file is made.
        machine.records(1, 4)
        machine.step()
        machine.records(2, 5)
        self.assertEqual(machine.status("memory", "stage"), ([3, 4, 5], "made"))
        # In a held segment without an owner.
        machine.step()
        machine.records(1, 2, 6)
        self.assertEqual(machine.status("memory"), [3, 4, 5, 6])
        machine.hear("owner", (1, 0), 3)
        machine.records(2)
        self.assertEqual(machine.status("memory"), [3, 4, 5, 6, 2])
        # No longer after a crash: the owner was told before the store began.
        machine.store.crash()
        machine.settle()
        machine.records(2, 7)
        self.assertEqual(machine.status("memory"), [7])

    def test_while_it_begins(self):
        machine = Machine([("segment 1 0", file_of(1, 2)), ("segment 1 1", file_of(3))], begun=False)
        machine.records(1, 3, 5)
        self.assertEqual(machine.status("memory"), [1, 3, 5])
        machine.step()
        machine.step()
        self.assertEqual(machine.status("memory", "held"), ([3, 5], [(1, 0)]))
        machine.records(2, 6)
        self.assertEqual(machine.status("memory"), [3, 5, 6])
        machine.settle()
        self.assertEqual(machine.status("memory"), [5, 6])

    def test_released_records_are_taken_again(self):
        machine = Machine()
        name = machine.segment(1)
        machine.hear("release", name)
        machine.records(1)
        self.assertEqual(machine.status("memory"), [1])


class SealTest(unittest.TestCase):
    def test_a_segment(self):
        machine = Machine()
        machine.records(3, 1, 2)
        self.assertIsNone(machine.store.seal())
        self.assertEqual(machine.status("making", "memory", "held", "stage"), ((1, 0), [], [], "up"))
        self.assertEqual(machine.store.want(), ("make", "segment 1 0", file_of(3, 1, 2)))
        self.assertEqual(machine.step(), ("make segment 1 0", []))
        self.assertEqual(machine.status("making", "held", "stage"), ((1, 0), [], "made"))
        self.assertTrue(machine.store.ready)
        self.assertEqual(machine.store.want(), ("sync",))
        self.assertEqual(machine.step(), ("sync", [sealed((1, 0), 3, 1, 2)]))
        self.assertEqual(machine.status("making", "held", "stage", "owners"), (None, [(1, 0)], "up", []))
        self.assertIsNone(machine.store.want())

    def test_the_first_records_at_most(self):
        machine = Machine(most=2)
        machine.records(1, 2, 3, 4, 5)
        names = []
        for numbers in ((1, 2), (3, 4), (5,)):
            machine.store.seal()
            names.append(machine.status("making"))
            self.assertEqual(machine.store.want()[2], file_of(*numbers))
            machine.settle()
        self.assertEqual(names, [(1, 0), (1, 1), (1, 2)])
        self.assertEqual(machine.status("held", "memory"), (names, []))

    def test_pieces(self):
        for many, pieces in ((1, 1), (4, 1), (5, 2), (9, 3)):
            machine = Machine()
            machine.records(*range(1, many + 1))
            machine.store.seal()
            self.assertEqual(machine.settle()[1][0][2], pieces)

    def test_a_hundred_at_most_unless_told(self):
        machine = Machine()
        machine.records(*range(1, 103))
        machine.store.seal()
        self.assertEqual(machine.status("memory"), [101, 102])

    def refused(self, machine):
        before = machine.store.status(), machine.store.want()
        with self.assertRaises(NotNow):
            machine.store.seal()
        self.assertEqual((machine.store.status(), machine.store.want()), before)

    def test_not_now(self):
        machine = Machine([("segment 1 0", [5]), ("start 1", [0, 0])], begun=False)
        machine.records(1, 2)
        # While it begins, and while files are to be removed.
        while machine.store.want() is not None:
            self.refused(machine)
            machine.step()
        machine.store.seal()
        machine.records(3)
        while machine.store.want() is not None:
            self.refused(machine)
            machine.step()
        machine.hear("release", (2, 0))
        while machine.store.want() is not None:
            self.refused(machine)
            machine.step()
        machine.store.seal()
        machine.settle()
        # Nothing is in memory.
        self.refused(machine)

    def test_the_dead_are_sealed_too(self):
        machine = Machine()
        machine.records(1, 2)
        machine.hear("dead", 1, 5)
        machine.store.seal()
        self.assertEqual(machine.store.want()[2], file_of(1, 2))


class RemoveTest(unittest.TestCase):
    def test_release(self):
        machine = Machine()
        names = [machine.segment(number) for number in (1, 2, 3)]
        self.assertEqual(machine.hear("release", names[1]), [])
        self.assertEqual(machine.hear("release", names[0]), [])
        self.assertEqual(machine.status("held", "removing"), ([names[2]], ["segment 1 1", "segment 1 0"]))
        self.assertEqual(machine.step(), ("remove segment 1 1", []))
        self.assertEqual(machine.status("removing", "stage"), (["segment 1 0"], "up"))
        self.assertEqual(machine.step(), ("remove segment 1 0", []))
        self.assertEqual((machine.status("removing", "stage"), machine.store.ready), (([], "swept"), True))
        self.assertEqual(machine.step(), ("sync", [("gone", names[1]), ("gone", names[0])]))
        self.assertEqual((machine.status("stage"), machine.store.want()), ("up", None))
        self.assertEqual(machine.files(), ["start 1", "segment 1 2"])

    def test_only_start_files(self):
        machine = Machine([("start 1", [0, 0])], begun=False)
        self.assertEqual(machine.settle(), (["names", "make start 2", "sync", "remove start 1", "sync"], []))

    def test_released_between_removals(self):
        machine = Machine()
        names = [machine.segment(number) for number in (1, 2, 3, 4)]
        machine.hear("release", names[0])
        machine.hear("release", names[1])
        machine.step()
        machine.hear("release", names[2])
        machine.step()
        self.assertEqual(machine.step(), ("remove segment 1 2", []))
        # While it waits for the sync.
        machine.hear("release", names[3])
        self.assertEqual(machine.status("removing", "stage"), (["segment 1 3"], "swept"))
        self.assertEqual(machine.step(), ("sync", [("gone", name) for name in names[:3]]))
        self.assertEqual(machine.settle(), (["remove segment 1 3", "sync"], [("gone", names[3])]))

    def test_a_segment_that_is_being_made_comes_first(self):
        machine = Machine()
        name = machine.segment(1)
        machine.records(2)
        machine.store.seal()
        machine.hear("release", name)
        self.assertEqual(machine.settle(), (["make segment 1 1", "sync", "remove segment 1 0", "sync"], [sealed((1, 1), 2), ("gone", name)]))

    def test_released_while_it_begins(self):
        machine = Machine([("segment 1 0", file_of(1)), ("segment 1 1", file_of(2))], begun=False)
        machine.step()
        # Not read yet, so not held.
        self.assertEqual(machine.hear("release", (1, 0)), [])
        machine.step()
        self.assertEqual(machine.hear("release", (1, 0)), [])
        self.assertEqual(machine.status("held", "removing"), ([], ["segment 1 0"]))
        words, said = machine.settle()
        self.assertEqual(words, ["read segment 1 1", "make start 2", "sync", "remove segment 1 0", "sync"])
        self.assertEqual(said, [sealed((1, 1), 2), ("gone", (1, 0))])

    def test_gone(self):
        machine = Machine()
        name = machine.segment(1)
        for kind, more in (("read", ((1, 1), 0)), ("fetch", ((1,),)), ("release", ())):
            # Of what is not held, never was, or cannot be.
            for missing in ((1, 1), (9, 9), (0, 0)):
                self.assertEqual(machine.hear(kind, missing, *more), [("gone", missing)])
        machine.records(2)
        machine.store.seal()
        for _ in range(2):
            # It is being made.
            for message in (("read", (1, 1), (1, 1), 0), ("fetch", (1, 1), (2,)), ("release", (1, 1))):
                self.assertEqual(machine.hear(*message), [])
            machine.step()
        self.assertEqual(machine.status("held"), [name, (1, 1)])
        machine.hear("release", name)
        for _ in range(2):
            # Its file is to be removed, or is removed but not for sure.
            for message in (("read", name, (1, 1), 0), ("fetch", name, (1,)), ("release", name)):
                self.assertEqual(machine.hear(*message), [])
            machine.step()
        self.assertEqual(machine.status("stage"), "up")
        for message in (("read", name, (1, 1), 0), ("fetch", name, (1,)), ("release", name)):
            self.assertEqual(machine.hear(*message), [("gone", name)])

    def test_removed_between_removals(self):
        machine = Machine()
        names = [machine.segment(number) for number in (1, 2)]
        for name in names:
            machine.hear("release", name)
        machine.step()
        # The first file is gone, but not for sure; the other one is to be removed.
        for name in names:
            self.assertEqual(machine.hear("release", name), [])


class HearTest(unittest.TestCase):
    def test_nothing_is_said_before_it_is_ready(self):
        machine = Machine([("segment 1 0", file_of(1)), ("start 1", [0, 0])], begun=False)
        query = Query([0])
        while not machine.store.ready:
            for name in ((1, 0), (7, 7)):
                for message in (("read", name, (1, 1), 0), ("fetch", name, (1,)), ("ask", (1, 1), 5, query, 5)):
                    self.assertEqual(machine.hear(*message), [])
            self.assertEqual(machine.hear("release", (7, 7)), [])
            self.assertEqual(machine.store.remind(), [])
            machine.step()
        self.assertEqual(len(machine.hear("read", (1, 0), (1, 1), 0)), 1)

    def test_other_messages(self):
        machine = Machine()
        before = machine.store.status()
        for message in (("hello",), ("sealed", (1, 0), 1, ()), ("", 1), ("records", 1, record(1))):
            self.assertEqual(machine.store.hear(message), [])
        self.assertEqual(machine.store.status(), before)

    def test_read(self):
        machine = Machine()
        name = machine.segment(*range(1, 7))
        entries = offer_with(*range(1, 7)).entries
        for index, piece in ((0, entries[:4]), (1, entries[4:]), (2, ()), (-1, ()), (9, ())):
            self.assertEqual(machine.hear("read", name, (3, 8), index), [("piece", name, (3, 8), index, piece)])

    def test_fetch(self):
        machine = Machine()
        name = machine.segment(3, 1, 2)
        for numbers, told in (((1, 3), (3, 1)), ((), ()), ((9,), ()), ((2, 9, 2), (2,)), ((1, 2, 3), (3, 1, 2))):
            pairs = tuple((number, record(number)) for number in told)
            self.assertEqual(machine.hear("fetch", name, numbers), [("fetched", pairs)])

    def test_owner(self):
        machine = Machine()
        names = [machine.segment(number) for number in (1, 2, 3)]
        for name, segment in ((names[2], 7), (names[0], 5), ((9, 9), 6), (names[2], 8)):
            self.assertEqual(machine.hear("owner", name, segment), [])
        self.assertEqual(machine.status("owners"), [(names[0], 5), (names[2], 8)])
        machine.store.status()["owners"].clear()
        machine.hear("release", names[0])
        self.assertEqual(machine.status("owners"), [(names[2], 8)])

    def test_owner_while_it_begins(self):
        machine = Machine([("segment 1 0", file_of(1)), ("segment 1 1", file_of(2))], begun=False)
        machine.hear("owner", (1, 0), 5)
        machine.step()
        machine.step()
        machine.hear("owner", (1, 0), 6)
        machine.hear("owner", (1, 1), 7)
        machine.settle()
        self.assertEqual(machine.status("owners"), [((1, 0), 6)])

    def reported(self, machine, moment):
        told = machine.hear("ask", (1, 1), moment, Query([0], most=99), 99)
        return [part.numbers for part in told[0][2]]

    def test_dead(self):
        machine = Machine()
        name = machine.segment(1, 2, 3)
        machine.hear("owner", name, 4)
        for number, by in ((2, 6), (2, 4), (9, 5), (3, 8)):
            self.assertEqual(machine.hear("dead", number, by), [])
        # The first death that is told counts.
        self.assertEqual([self.reported(machine, moment) for moment in (5, 6, 7, 8)], [[(1, 2, 3)], [(1, 3)], [(1, 3)], [(1,)]])
        # No death of what is not here is noted.
        machine.records(9)
        machine.store.seal()
        machine.settle()
        machine.hear("owner", (1, 1), 5)
        self.assertEqual(self.reported(machine, 9), [(1,), (9,)])

    def test_dead_in_memory_and_in_the_making(self):
        machine = Machine()
        machine.records(1, 2)
        machine.hear("dead", 1, 5)
        machine.store.seal()
        machine.hear("dead", 2, 6)
        machine.settle()
        machine.hear("owner", (1, 0), 4)
        self.assertEqual([self.reported(machine, moment) for moment in (4, 5, 6)], [[(1, 2)], [(2,)], [()]])

    def test_deaths_that_are_forgotten(self):
        machine = Machine()
        first, second = machine.segment(1, 2), machine.segment(3)
        machine.hear("owner", first, 4)
        machine.records(2)
        for number in (1, 2, 3):
            machine.hear("dead", number, 5)
        machine.hear("release", first)
        machine.settle()
        machine.records(1)
        machine.store.seal()
        machine.settle()
        machine.hear("owner", second, 5)
        machine.hear("owner", (1, 2), 6)
        # 2 waited in memory and 3 was held all the time, 1 was not here any more.
        self.assertEqual(self.reported(machine, 9), [(), (1,)])

    def test_release_of_what_is_not_held_forgets_nothing(self):
        machine = Machine()
        name = machine.segment(1)
        machine.hear("owner", name, 4)
        machine.hear("dead", 1, 5)
        machine.hear("release", (9, 9))
        self.assertEqual(self.reported(machine, 9), [()])

    def test_remind(self):
        machine = Machine()
        self.assertEqual(machine.store.remind(), [])
        names = [machine.segment(number) for number in (1, 2, 3)]
        self.assertEqual(machine.store.remind(), [sealed(names[0], 1)])
        machine.hear("owner", names[0], 5)
        self.assertEqual(machine.store.remind(), [sealed(names[1], 2)])
        machine.store.merge([names[2], names[0], names[1]])
        machine.hear("needed", names[0], ())
        self.assertEqual(machine.store.remind(), [sealed(names[1], 2), ("needs", names[2]), ("needs", names[1])])
        for name in names[1:]:
            machine.hear("owner", name, 6)
        self.assertEqual(machine.store.remind(), [("needs", names[2]), ("needs", names[1])])

    def test_remind_while_a_segment_is_made_or_removed(self):
        machine = Machine()
        name, other = machine.segment(1), machine.segment(2)
        machine.hear("release", other)
        while machine.store.want() is not None:
            self.assertEqual(machine.store.remind(), [sealed(name, 1)])
            machine.step()


class AskTest(unittest.TestCase):
    def setUp(self):
        self.machine = Machine(walk=1)
        self.names = [self.machine.segment(*numbers) for numbers in ((5, 2, 9, 1), (3, 4), (6,))]
        self.machine.hear("owner", self.names[2], 7)
        self.machine.hear("owner", self.names[0], 8)

    def told(self, moment, query, budget, machine=None):
        """The report, and the one of a search of the given sources."""
        (kind, asked, report), = (machine or self.machine).hear("ask", (3, 4), moment, query, budget)
        self.assertEqual((kind, asked), ("answer", (3, 4)))
        return report

    def source(self, segment, place, *numbers, without=()):
        offer = offer_with(*numbers)
        entries = [(entry.number, entry.record, entry.leaves[place]) for entry in offer.entries if entry.number not in without]
        return Source(segment, place, offer.partitions[place], entries)

    def search(self, query, sources, budget, walk=1):
        search = Search(Question(SCHEMA, query), sources, walk=walk)
        search.run(budget)
        return search.report()

    def test_the_report_of_a_search(self):
        query = Query([5], most=3)
        sources = [self.source(8, 0, 5, 2, 9, 1), self.source(7, 0, 6)]
        for budget in range(6):
            report = self.told(9, query, budget)
            self.assertEqual(report, self.search(query, sources, budget))
            self.assertEqual([part.segment for part in report], [8, 7])
        self.assertIs(type(self.told(9, query, 1)), list)

    def test_moments(self):
        query = Query([5], most=3)
        for moment, without in ((9, ()), (8, (9,)), (5, (9, 6)), (4, (9, 6, 5)), (1, (9, 6, 5, 2)), (0, (9, 6, 5, 2, 1))):
            sources = [self.source(8, 0, 5, 2, 9, 1, without=without), self.source(7, 0, 6, without=without)]
            self.assertEqual(self.told(moment, query, 9), self.search(query, sources, 9))

    def test_deaths(self):
        self.machine.hear("dead", 2, 6)
        query = Query([5], most=9)
        for moment, without in ((5, (9, 6)), (6, (9, 2)), (7, (9, 2))):
            sources = [self.source(8, 0, 5, 2, 9, 1, without=without), self.source(7, 0, 6, without=without)]
            self.assertEqual(self.told(moment, query, 9), self.search(query, sources, 9))

    def test_without_owners(self):
        machine = Machine()
        machine.segment(1)
        self.assertEqual(self.told(9, Query([0]), 9, machine), [])
        machine = Machine()
        self.assertEqual(self.told(9, Query([0]), 9, machine), [])

    def test_partitions(self):
        for partition, place in ((1, 1), (0, 0), (2, 0), (-1, 0)):
            machine = Machine(partition=partition)
            name = machine.segment(5, 2, 9, 1)
            machine.hear("owner", name, 8)
            report = self.told(9, Query([5]), 0, machine)
            self.assertEqual(report, self.search(Query([5]), [self.source(8, place, 5, 2, 9, 1)], 0))
            self.assertEqual(report[0].partition, place)

    def test_the_walk(self):
        query = Query([5], most=1)
        for walk in (0, 5):
            machine = Machine(walk=walk)
            name = machine.segment(5, 2, 9, 1)
            machine.hear("owner", name, 8)
            for budget in range(4):
                report = self.told(9, query, budget, machine)
                self.assertEqual(report, self.search(query, [self.source(8, 0, 5, 2, 9, 1)], budget, walk))

    def test_invalid_queries(self):
        for query in (Query([1, 2]), Query([500]), Query([1], most=0), Query([1], text="nothing"), Query([1], text="("), Query([1], near=-1)):
            self.assertEqual(self.machine.hear("ask", 5, 9, query, 9), [("answer", 5, [])])

    def test_a_report_tells_of_no_other_store(self):
        report = self.told(9, Query([5], most=9), 99)
        self.assertEqual(sorted(number for part in report for number in part.numbers), [1, 2, 5, 6, 9])
        self.assertTrue(all(isinstance(part, ReportPart) for part in report))

    def test_while_segments_are_made_and_removed(self):
        self.machine.records(10)
        self.machine.store.seal()
        while self.machine.store.want() is not None:
            self.assertEqual(len(self.told(9, Query([5]), 1)), 2)
            self.machine.step()


class MergeTest(unittest.TestCase):
    def setUp(self):
        self.machine = Machine()
        self.names = [self.machine.segment(*numbers) for numbers in ((1, 2), (3, 4, 5), (6,))]

    def needed(self, name, *numbers):
        return self.machine.hear("needed", name, tuple((number, None) for number in numbers))

    def test_a_merge(self):
        a, b, c = self.names
        self.assertEqual(self.machine.store.merge([c, a]), [("needs", c), ("needs", a)])
        self.assertEqual(self.machine.status("merging", "making"), ([c, a], None))
        self.assertEqual(self.needed(a, 2, 1), [])
        self.assertIsNone(self.machine.store.want())
        self.machine.records(2, 9, 6)
        self.assertEqual(self.machine.status("memory"), [9])
        self.assertEqual(self.needed(c, 6), [])
        # The order is that of the names and of the entries.
        self.assertEqual(self.machine.status("merging", "making", "memory"), ([], (1, 3), [9]))
        self.assertEqual(self.machine.store.want(), ("make", "segment 1 3", file_of(6, 1, 2)))
        self.assertEqual(self.machine.settle(), (["make segment 1 3", "sync"], [sealed((1, 3), 6, 1, 2)]))
        # The old ones are held until they are released.
        self.assertEqual(self.machine.status("held"), [a, b, c, (1, 3)])

    def test_not_all_are_needed(self):
        a, b, _ = self.names
        self.machine.store.merge([a, b])
        self.needed(b, 5, 3, 77, 1)
        self.needed(a, 2)
        # 1 is not needed of the segment in which it is.
        self.assertEqual(self.machine.store.want()[2], file_of(2, 3, 5))

    def test_each_number_once(self):
        a = self.names[0]
        self.machine.hear("owner", a, 3)
        again = self.machine.segment(2, 7)
        self.machine.store.merge([again, a])
        self.needed(a, 1, 2)
        self.needed(again, 7, 2)
        self.assertEqual(self.machine.store.want()[2], file_of(2, 7, 1))

    def test_records_leave_memory(self):
        a = self.names[0]
        self.machine.hear("owner", a, 3)
        self.machine.records(8, 2, 1, 9)
        self.machine.store.merge([a])
        self.needed(a, 2)
        self.assertEqual(self.machine.status("memory"), [8, 1, 9])

    def test_nothing_is_needed(self):
        a, b, _ = self.names
        self.machine.store.merge([a, b])
        self.needed(a)
        self.assertEqual(self.machine.status("merging"), [a, b])
        self.needed(b, 99)
        self.assertEqual(self.machine.status("merging", "making", "held"), ([], None, self.names))
        self.assertIsNone(self.machine.store.want())
        # The number of the next segment is not used up.
        self.assertEqual(self.machine.segment(9), (1, 3))

    def test_the_last_message_counts(self):
        a, b, _ = self.names
        self.machine.store.merge([a, b])
        self.needed(a, 1, 2)
        self.needed(a, 2)
        self.needed(b)
        self.assertEqual(self.machine.store.want()[2], file_of(2))

    def test_names_that_are_not_in_the_merge(self):
        a, b, c = self.names
        self.machine.hear("owner", c, 3)
        self.assertEqual(self.machine.hear("needed", c, ((6, 8),)), [])
        self.machine.store.merge([a, b])
        self.assertEqual(self.machine.hear("needed", c, ((6, 8),)), [])
        # Not even its deaths are noted.
        self.assertEqual(self.machine.hear("ask", 1, 9, Query([0], most=9), 9)[0][2][0].numbers, (6,))
        self.needed(a, 1)
        self.assertEqual(self.machine.status("merging"), [a, b])

    def test_deaths(self):
        a = self.names[0]
        self.machine.hear("dead", 1, 7)
        self.machine.store.merge([a])
        self.machine.hear("needed", a, ((1, 6), (2, 9), (99, 5)))
        self.machine.settle()
        self.machine.hear("owner", (1, 3), 4)
        told = [self.machine.hear("ask", 1, moment, Query([0], most=9), 9)[0][2][0].numbers for moment in (6, 7, 8, 9)]
        self.assertEqual(told, [(1, 2), (2,), (2,), ()])

    def test_needed_without_a_death(self):
        a = self.names[0]
        self.machine.store.merge([a])
        self.machine.hear("needed", a, ((1, None), (2, None)))
        self.machine.settle()
        self.machine.hear("owner", (1, 3), 4)
        self.machine.hear("dead", 1, 7)
        told = [self.machine.hear("ask", 1, moment, Query([0], most=9), 9)[0][2][0].numbers for moment in (6, 7)]
        self.assertEqual(told, [(1, 2), (2,)])

    def test_nothing_is_known_at_the_beginning_of_a_merge(self):
        a = self.names[0]
        self.machine.store.merge([a, self.names[1]])
        self.needed(a, 1)
        self.machine.store.crash()
        self.machine.settle()
        self.machine.store.merge([a])
        self.assertEqual(self.machine.store.remind()[1:], [("needs", a)])
        self.assertEqual(self.machine.status("merging"), [a])

    def refused(self, names):
        before = self.machine.store.status()
        with self.assertRaises(NotNow):
            self.machine.store.merge(names)
        self.assertEqual(self.machine.store.status(), before)

    def test_not_now(self):
        a, b, c = self.names
        for names in ([], [a, a], [a, b, a], [(1, 3)], [a, (9, 9)], [a, b, (0, 0)]):
            self.refused(names)
        self.machine.store.merge([a])
        for names in ([a], [b], [b, c]):
            self.refused(names)
        self.needed(a)
        self.machine.store.merge([b])
        self.needed(b, 3)
        # The merge is over when its segment begins to be made.
        self.assertEqual(self.machine.store.merge([c, a]), [("needs", c), ("needs", a)])

    def test_not_while_it_begins(self):
        machine = Machine([("segment 1 0", file_of(1))], begun=False)
        while not machine.store.ready:
            with self.assertRaises(NotNow):
                machine.store.merge([(1, 0)])
            machine.step()
        self.assertEqual(machine.store.merge([(1, 0)]), [("needs", (1, 0))])

    def test_a_segment_that_is_being_made_is_not_held(self):
        self.machine.records(7)
        self.machine.store.seal()
        self.refused([(1, 3)])
        self.machine.step()
        self.refused([(1, 3)])
        self.machine.step()
        self.machine.store.merge([(1, 3)])

    def test_begun_at_any_time_while_it_is_ready(self):
        self.machine.records(7)
        self.machine.store.seal()
        self.assertEqual(len(self.machine.store.merge([self.names[0]])), 1)
        self.assertEqual(self.machine.status("merging", "making"), ([self.names[0]], (1, 3)))

    def test_made_when_it_can_be(self):
        """All is known while another segment is made, or while files are removed."""
        a, b, c = self.names
        self.machine.records(7)
        self.machine.store.seal()
        self.machine.store.merge([a])
        self.needed(a, 1)
        self.assertEqual(self.machine.status("making", "merging"), ((1, 3), [a]))
        self.machine.step()
        self.needed(a, 2)
        self.assertEqual(self.machine.status("making", "merging"), ((1, 3), [a]))
        self.assertEqual(self.machine.step(), ("sync", [sealed((1, 3), 7)]))
        self.assertEqual(self.machine.status("making", "merging"), ((1, 4), []))
        self.assertEqual(self.machine.store.want()[2], file_of(2))
        self.machine.settle()
        self.machine.hear("release", c)
        self.machine.store.merge([b])
        self.needed(b, 4)
        self.assertEqual(self.machine.status("making", "merging"), (None, [b]))
        self.machine.step()
        self.needed(b, 4)
        self.assertEqual(self.machine.status("stage", "making", "merging"), ("swept", None, [b]))
        self.assertEqual(self.machine.step(), ("sync", [("gone", c)]))
        self.assertEqual(self.machine.status("making", "merging"), ((1, 5), []))

    def test_files_to_be_removed_after_the_sync(self):
        a, b, c = self.names
        self.machine.hear("release", c)
        self.machine.step()
        self.machine.store.merge([b])
        self.needed(b, 4)
        self.machine.hear("release", a)
        self.machine.step()
        # Another file is to be removed first.
        self.assertEqual(self.machine.status("making", "merging", "removing"), (None, [b], ["segment 1 0"]))
        self.machine.settle()
        self.assertEqual(self.machine.status("held", "merging"), ([b, (1, 3)], []))

    def test_release_ends_a_merge(self):
        a, b, c = self.names
        self.machine.store.merge([a, b])
        self.needed(a, 1)
        self.machine.hear("release", c)
        self.assertEqual(self.machine.status("merging"), [a, b])
        self.machine.hear("release", b)
        self.assertEqual(self.machine.status("merging", "held"), ([], [a]))
        self.machine.settle()
        self.needed(b, 3)
        self.assertIsNone(self.machine.store.want())
        # Nothing of it is known in the next merge.
        self.machine.store.merge([a])
        self.assertEqual(self.machine.store.remind(), [sealed(a, 1, 2), ("needs", a)])
        self.assertEqual(self.machine.status("making"), None)

    def test_sealing_during_a_merge(self):
        a = self.names[0]
        self.machine.store.merge([a])
        self.machine.records(7)
        self.machine.store.seal()
        self.machine.settle()
        self.assertEqual(self.machine.status("merging", "held"), ([a], self.names + [(1, 3)]))
        self.needed(a, 1)
        self.assertEqual(self.machine.status("making"), (1, 4))

    def test_arguments(self):
        names = self.names[:2]
        self.machine.store.merge(names)
        names.clear()
        self.assertEqual(self.machine.status("merging"), self.names[:2])
        self.machine.store.status()["merging"].clear()
        self.assertEqual(self.machine.status("merging"), self.names[:2])

    def test_a_merge_may_be_greater_than_most(self):
        machine = Machine(most=2)
        names = [machine.segment(*numbers) for numbers in ((1, 2), (3, 4))]
        machine.store.merge(names)
        for name, numbers in zip(names, ((1, 2), (3, 4))):
            machine.hear("needed", name, tuple((number, None) for number in numbers))
        self.assertEqual(machine.store.want()[2], file_of(1, 2, 3, 4))


class CrashTest(unittest.TestCase):
    """What is told as sealed outlives each crash, whatever the disk leaves."""

    def test_every_cut(self):
        for stop in range(8):
            for done in (False, True):
                for state in range(-1, 3):
                    for size in range(0, 60, 3):
                        machine = Machine()
                        first = machine.segment(1)
                        machine.hear("release", first)
                        machine.settle()
                        machine.records(2, 3)
                        machine.store.seal()
                        said = []
                        for _ in range(stop):
                            if machine.store.want() is not None:
                                said += machine.step()[1]
                        if done and machine.store.want() is not None:
                            machine.disk.ask(machine.store.want())
                        machine.disk.crash([(name, state, size) for name, _, _ in machine.disk.files()])
                        machine.store.crash()
                        machine.settle()
                        # Never again under an old name, and the whole segment or nothing.
                        self.assertEqual(machine.status("start"), 2)
                        self.assertIn(machine.status("held"), [[(1, 1)]] if said else [[], [(1, 1)]])
                        self.assertEqual(machine.files(), ["start 2", "segment 1 1"][::-1] if machine.status("held") else ["start 2"])

    def test_a_removal_that_a_crash_takes_back(self):
        machine = Machine()
        name = machine.segment(1)
        machine.hear("release", name)
        machine.step()
        machine.disk.crash([("segment 1 0", 0, 0)])
        machine.store.crash()
        machine.settle()
        self.assertEqual(machine.status("held"), [name])
        machine.hear("release", name)
        machine.settle()
        machine.disk.crash([("segment 1 0", 0, 0)])
        machine.store.crash()
        machine.settle()
        self.assertEqual(machine.status("held"), [])

    def test_many(self):
        """Names are never given twice, and a held segment always has the records that it was made of."""
        rng = random.Random(76)
        for _ in range(40):
            machine, contents, number, gone = Machine(begun=False, most=3), {}, 0, []
            for _ in range(60):
                self.turn(rng, machine, contents, gone)
                status = machine.store.status()
                for held in machine.store.held:
                    self.assertEqual([entry.number for entry in held.offer.entries], contents[held.name])
                    self.assertNotIn(held.name, gone)
                self.assertEqual(len(set(status["memory"])), len(status["memory"]))

    def turn(self, rng, machine, contents, gone):
        word = rng.choice(("record", "record", "step", "step", "step", "step", "seal", "merge", "needed", "release", "owner", "crash"))
        status = machine.store.status()
        held = status["held"]
        if word == "record":
            machine.records(rng.randint(1, 12))
        elif word == "step" and machine.store.want() is not None:
            _, said = machine.step()
            gone.extend(message[1] for message in said if message[0] == "gone")
        elif word == "crash" and rng.random() < 0.3:
            machine.disk.crash([(name, rng.randint(-1, 3), rng.randint(0, 40)) for name, _, _ in machine.disk.files()])
            machine.store.crash()
        elif word == "seal" and status["memory"]:
            self.attempt(machine.store.seal)
        elif word == "merge" and held:
            self.attempt(lambda: machine.store.merge(rng.sample(held, rng.randint(1, len(held)))))
        elif word == "needed" and status["merging"]:
            name = rng.choice(status["merging"])
            machine.hear("needed", name, tuple((number, None) for number in contents[name] if rng.random() < 0.7))
        elif word in ("release", "owner") and held:
            machine.hear(*((word, rng.choice(held)) + ((5,) if word == "owner" else ())))
        making = machine.store.making
        if making is not None:
            numbers = [entry.number for entry in making.offer.entries]
            self.assertEqual(contents.setdefault(making.name, numbers), numbers)

    def attempt(self, act):
        try:
            act()
        except NotNow:
            pass


if __name__ == "__main__":
    unittest.main()
