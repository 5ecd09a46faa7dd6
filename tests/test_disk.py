"""Points [69] and [70]: files, their states, and crashes."""

import itertools
import random
import unittest

from surenear.disks.disk import Disk
from surenear.errors import InvalidOperation

DONE = ("done",)
REFUSED = ("refused",)


def disk_with(*operations):
    """A disk that has done these operations; none of them is refused."""
    disk = Disk()
    for operation in operations:
        if disk.ask(operation) == REFUSED:
            raise AssertionError(operation)
    return disk


def read(disk, name="a"):
    answer = disk.ask(("read", name))
    return None if answer == REFUSED else answer[1]


class OperationTest(unittest.TestCase):
    def test_an_empty_disk(self):
        disk = Disk()
        self.assertEqual(disk.ask(("names",)), ("names", []))
        self.assertEqual(disk.ask(("sync",)), DONE)
        for operation in (("append", "a", [1]), ("remove", "a"), ("read", "a")):
            self.assertEqual(disk.ask(operation), REFUSED)
        self.assertEqual(disk.files(), [])

    def test_make_and_read(self):
        disk = Disk()
        self.assertEqual(disk.ask(("make", "a", [1, 2])), DONE)
        self.assertEqual(disk.ask(("read", "a")), ("numbers", [1, 2]))
        self.assertEqual(disk.ask(("make", "a", [3])), REFUSED)
        self.assertEqual(disk.ask(("read", "a")), ("numbers", [1, 2]))
        self.assertEqual(disk.ask(("make", "b", ())), DONE)
        self.assertEqual(disk.ask(("read", "b")), ("numbers", []))
        self.assertEqual(disk.ask(("make", "b", ())), REFUSED)

    def test_append(self):
        disk = disk_with(("make", "a", [1]), ("make", "b", [7]))
        self.assertEqual(disk.ask(("append", "a", (2, 3))), DONE)
        self.assertEqual(disk.ask(("append", "a", [])), DONE)
        self.assertEqual((read(disk), read(disk, "b")), ([1, 2, 3], [7]))
        self.assertEqual(disk.ask(("append", "c", [1])), REFUSED)
        self.assertEqual(disk.ask(("names",)), ("names", ["a", "b"]))

    def test_remove(self):
        disk = disk_with(("make", "a", [1]), ("make", "b", [2]))
        self.assertEqual(disk.ask(("remove", "a")), DONE)
        for operation in (("remove", "a"), ("read", "a"), ("append", "a", [1])):
            self.assertEqual(disk.ask(operation), REFUSED)
        self.assertEqual(disk.ask(("names",)), ("names", ["b"]))
        self.assertEqual(disk.ask(("make", "a", [5])), DONE)
        self.assertEqual(read(disk), [5])

    def test_order_of_names(self):
        disk = disk_with(("make", "b", []), ("make", "a", []), ("make", "c", []), ("remove", "b"), ("sync",))
        self.assertEqual(disk.ask(("names",)), ("names", ["a", "c"]))
        disk.ask(("make", "d", []))
        disk.ask(("make", "b", []))
        # The name counts from when it was first made, ever.
        self.assertEqual(disk.ask(("names",)), ("names", ["b", "a", "c", "d"]))
        self.assertEqual([name for name, _, _ in disk.files()], ["b", "a", "c", "d"])

    def test_order_of_names_that_a_crash_took_away(self):
        disk = disk_with(("make", "b", []), ("make", "a", []))
        disk.crash([("b", 0, 0)])
        self.assertEqual(disk.ask(("names",)), ("names", ["a"]))
        disk.ask(("make", "b", []))
        self.assertEqual(disk.ask(("names",)), ("names", ["b", "a"]))

    def test_no_operation(self):
        disk = disk_with(("make", "a", [1]))
        for word in ("", "Make", "write", "make ", "delete", "done", "a"):
            with self.assertRaises(InvalidOperation):
                disk.ask((word, "a", [1]))
        self.assertEqual(disk.files(), [("a", None, [1])])

    def test_copies(self):
        numbers = [1, 2]
        disk = disk_with(("make", "a", numbers))
        numbers.append(3)
        self.assertEqual(read(disk), [1, 2])
        more = [4]
        disk.ask(("append", "a", more))
        more.append(5)
        self.assertEqual(read(disk), [1, 2, 4])
        read(disk).append(9)
        disk.ask(("names",))[1].append("x")
        disk.ask(("sync",))
        for _, sure, seen in disk.files():
            sure.append(1)
            seen.append(2)
        disk.files().clear()
        self.assertEqual(disk.files(), [("a", [1, 2, 4], [1, 2, 4])])
        self.assertEqual(disk.ask(("names",)), ("names", ["a"]))


class FilesTest(unittest.TestCase):
    def test_sure_and_seen(self):
        disk = disk_with(("make", "a", [1]))
        self.assertEqual(disk.files(), [("a", None, [1])])
        disk.ask(("sync",))
        self.assertEqual(disk.files(), [("a", [1], [1])])
        disk.ask(("append", "a", [2]))
        self.assertEqual(disk.files(), [("a", [1], [1, 2])])
        disk.ask(("remove", "a"))
        self.assertEqual(disk.files(), [("a", [1], None)])
        self.assertEqual(disk.ask(("names",)), ("names", []))
        disk.ask(("sync",))
        self.assertEqual(disk.files(), [])

    def test_made_and_removed_since(self):
        disk = disk_with(("make", "a", [1]), ("remove", "a"))
        self.assertEqual(disk.files(), [])

    def test_an_empty_file_exists(self):
        disk = disk_with(("make", "a", []), ("sync",))
        self.assertEqual(disk.files(), [("a", [], [])])


class CrashTest(unittest.TestCase):
    """The states of file a are: [1] for sure, [1, 2, 3], gone, [5, 6, 7], [5, 6, 7, 8, 9]."""

    STEPS = (
        ("make", "a", [1]), ("sync",), ("append", "a", [2, 3]), ("remove", "a"), ("make", "a", [5, 6, 7]),
        ("append", "a", [8, 9]),
    )

    def crashed(self, *cuts, steps=STEPS):
        disk = disk_with(*steps)
        self.assertIsNone(disk.crash(list(cuts)))
        return disk

    def test_without_cuts(self):
        disk = self.crashed()
        self.assertEqual(disk.files(), [("a", [1], [5, 6, 7, 8, 9])])

    def test_each_state_and_size(self):
        least = {1: ([1, 2, 3], 1), 3: ([5, 6, 7], 0), 4: ([5, 6, 7, 8, 9], 3)}
        for size in range(-2, 9):
            self.assertEqual(self.crashed(("a", 0, size)).files(), [("a", [1], [1])])
            self.assertEqual(self.crashed(("a", 2, size)).files(), [("a", [1], None)])
            for state, (numbers, kept) in least.items():
                left = numbers[:min(len(numbers), max(size, kept))]
                self.assertEqual(self.crashed(("a", state, size)).files(), [("a", [1], left)], (state, size))

    def test_no_such_state(self):
        for state in (-1, -5, 5, 6, 100):
            self.assertEqual(self.crashed(("a", state, 0)).files(), [("a", [1], [5, 6, 7, 8, 9])])

    def test_the_first_cut_of_a_name_counts(self):
        cuts = [("a", 1, 2), ("a", 0, 0), ("b", 0, 0)]
        self.assertEqual(self.crashed(*cuts).files(), [("a", [1], [1, 2])])
        # Even if it names no state.
        self.assertEqual(self.crashed(("a", 9, 0), ("a", 0, 0)).files(), [("a", [1], [5, 6, 7, 8, 9])])

    def test_cuts_of_other_names(self):
        self.assertEqual(self.crashed(("b", 0, 0), ("", 1, 1)).files(), [("a", [1], [5, 6, 7, 8, 9])])
        disk = Disk()
        disk.crash([("a", 0, 0)])
        self.assertEqual(disk.files(), [])

    def test_each_file_by_itself(self):
        steps = (("make", "a", [1]), ("make", "b", [2, 2]), ("make", "c", [3]))
        disk = self.crashed(("b", 1, 1), ("c", 0, 5), steps=steps)
        self.assertEqual(disk.files(), [("a", None, [1]), ("b", None, [2])])

    def test_a_cut_to_nothing_is_a_list(self):
        disk = self.crashed(("a", 1, 0), steps=(("make", "a", [1, 2]),))
        self.assertEqual(disk.files(), [("a", None, [])])

    def test_a_state_that_does_not_begin_with_the_one_before(self):
        # Removed and made again between two states: the state before is no list.
        steps = (("make", "a", [1, 2]), ("sync",), ("remove", "a"), ("make", "a", [1, 2, 3]))
        self.assertEqual(self.crashed(("a", 2, 0), steps=steps).files(), [("a", [1, 2], [])])
        self.assertEqual(self.crashed(("a", 1, 0), steps=steps).files(), [("a", [1, 2], None)])

    def test_states_after_a_crash(self):
        # One further state only: what is left.
        disk = self.crashed(("a", 3, 2))
        self.assertEqual(disk.files(), [("a", [1], [5, 6])])
        disk.crash([("a", 2, 0)])
        self.assertEqual(disk.files(), [("a", [1], [5, 6])])
        # It does not begin with what is sure, so it may be cut to nothing.
        disk.crash([("a", 1, 1)])
        self.assertEqual(disk.files(), [("a", [1], [5])])
        disk.crash([("a", 1, -1)])
        self.assertEqual(disk.files(), [("a", [1], [])])
        disk.crash([("a", 0, 0)])
        self.assertEqual(disk.files(), [("a", [1], [1])])
        disk.crash([("a", 1, 0)])
        self.assertEqual(disk.files(), [("a", [1], [1])])

    def test_what_is_left_begins_with_what_is_sure(self):
        disk = self.crashed(("a", 1, 2))
        self.assertEqual(disk.files(), [("a", [1], [1, 2])])
        disk.crash([("a", 1, 0)])
        self.assertEqual(disk.files(), [("a", [1], [1])])
        # It is equal to what is sure: there is no further state.
        disk.ask(("append", "a", [4]))
        disk.crash([("a", 1, 2)])
        self.assertEqual(disk.files(), [("a", [1], [1, 4])])

    def test_gone_is_left(self):
        disk = self.crashed(("a", 2, 0))
        self.assertEqual(disk.ask(("names",)), ("names", []))
        disk.ask(("make", "a", [4, 4]))
        # States: [1], gone, [4, 4].
        disk.crash([("a", 2, 1)])
        self.assertEqual(disk.files(), [("a", [1], [4])])

    def test_a_sync_makes_it_sure(self):
        disk = self.crashed(("a", 3, 2))
        disk.ask(("sync",))
        for state, size in itertools.product(range(-1, 4), range(4)):
            disk.crash([("a", state, size)])
            self.assertEqual(disk.files(), [("a", [5, 6], [5, 6])])

    def test_refused_operations_make_no_states(self):
        disk = disk_with(("make", "a", [1]), ("sync",))
        self.assertEqual(disk.ask(("make", "a", [2])), REFUSED)
        self.assertEqual(disk.ask(("read", "b")), REFUSED)
        disk.ask(("read", "a"))
        disk.ask(("append", "a", []))
        disk.ask(("append", "a", [2]))
        # States: [1], [1], [1, 2].
        disk.crash([("a", 2, 0)])
        self.assertEqual(disk.files(), [("a", [1], [1])])

    def test_cuts_are_not_changed(self):
        cuts = [("a", 1, 2), ("a", 0, 0)]
        self.crashed(*cuts)
        disk_with(*self.STEPS).crash(cuts)
        self.assertEqual(cuts, [("a", 1, 2), ("a", 0, 0)])

    def test_many(self):
        rng = random.Random(70)
        for _ in range(300):
            disk, sure, states = Disk(), None, [None]
            for _ in range(rng.randint(0, 12)):
                word = rng.choice(("make", "append", "append", "remove", "sync", "crash"))
                numbers = [rng.randint(0, 9) for _ in range(rng.randint(0, 3))]
                if word == "crash":
                    state, size = rng.randint(-1, len(states)), rng.randint(0, 6)
                    disk.crash([("a", state, size)])
                    left = self.left(states, state, size)
                    states = [sure] + ([left] if left != sure else [])
                elif word == "sync":
                    disk.ask(("sync",))
                    sure, states = states[-1], [states[-1]]
                else:
                    there = states[-1] is not None
                    operation = (word, "a") if word == "remove" else (word, "a", numbers)
                    answer = disk.ask(operation)
                    self.assertEqual(answer, DONE if there != (word == "make") else REFUSED)
                    if answer == DONE:
                        states.append({"make": numbers, "append": (states[-1] or []) + numbers, "remove": None}[word])
                self.assertEqual(read(disk), states[-1])
                told = [] if sure is None and states[-1] is None else [("a", sure, states[-1])]
                self.assertEqual(disk.files(), told)

    def left(self, states, state, size):
        if not 0 <= state < len(states):
            return states[-1]
        whole = states[state]
        if state == 0 or whole is None:
            return whole
        before = states[state - 1]
        least = len(before) if before is not None and whole[:len(before)] == before else 0
        return whole[:min(len(whole), max(least, size))]


if __name__ == "__main__":
    unittest.main()
